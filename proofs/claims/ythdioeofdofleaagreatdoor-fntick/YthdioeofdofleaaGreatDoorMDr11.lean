import Derived.Test.YthdioeofdofleaaGreatDoorMDr9
import Derived.Test.YthdioeofdofleaaGreatDoorMFk1
import Derived.Test.YthdioeofdofleaaGreatDoorMReadBy
set_option linter.unusedSimpArgs false
set_option maxRecDepth 100000
namespace Go.Proofs.YthdioeofdofleaaGreatDoor
open Go.RowKit
variable {n : Nt} {bs zs : List Int} {k C X R ca : Nat} {c c1 c' : Cu} {t : Tr} {w0 w w' : World} {v u : Value} {ps : List (Int × Int)} {a : Option Addr}
structure xr (n : Nt) : Prop where
 pcs : n.pieces.length <= 10000
 jts : n.joints.length <= 10000
 ends : ∀ i (h : i < n.joints.length), n.joints[i].ends.length <= 1000000 /\ n.joints[i].name.size <= 1000000
 nms : ∀ i (h : i < n.pieces.length), n.pieces[i].name.size <= 1000000
 lens : qG n
theorem xr.hle (h : xr n) : ∀ i (h : i < n.joints.length), n.joints[i].ends.length <= 1048576 /\ n.joints[i].name.size <= maxLen := fun i hi => by
 have := h.ends i hi;unfold maxLen;omega
theorem xr.hnm (h : xr n) : ∀ i (h : i < n.pieces.length), n.pieces[i].name.size <= maxLen := fun i hi => by
 have := h.nms i hi;unfold maxLen;omega

def tryC (bs : List Int) (c : Cu) (n : Nt) : Sp × Int × Cu :=
 ((ym bs c n).1, 1 + (Zj bs (ym bs c n).2 220).1.tdiv (1 + (zn bs (Zj bs (ym bs c n).2 220).2 4).1), (zn bs (Zj bs (ym bs c n).2 220).2 4).2)
inductive Yg (bs : List Int) (n : Nt) (zs : List Int) : Nat -> Cu -> Tr -> Cu -> Prop
 | last (c : Cu) : Yg bs n zs 0 c ⟨(ym bs c n).1, 1 + (zn bs (ym bs c n).2 9).1, []⟩ (zn bs (ym bs c n).2 9).2
 | hit {k : Nat} {c : Cu} {t : Tr} (h : YF n zs (tryC bs c n).1 (tryC bs c n).2.1 true t) : Yg bs n zs (k + 1) c t (tryC bs c n).2.2
 | miss {k : Nat} {c c' : Cu} {t t' : Tr} (h : YF n zs (tryC bs c n).1 (tryC bs c n).2.1 false t') (g : Yg bs n zs k (tryC bs c n).2.2 t c') : Yg bs n zs (k + 1) c t c'
theorem Yg.unique {c2 : Cu} {t1 t2 : Tr} (h : Yg bs n zs k c t1 c1) : Yg bs n zs k c t2 c2 -> t1 = t2 /\ c1 = c2 := by
 induction h with
 | last c => intro g; cases g; exact ⟨rfl, rfl⟩
 | hit h =>
  intro g
  cases g with
  | hit h' => exact ⟨(h.unique h').2, rfl⟩
  | miss h' _ => exact absurd (h.unique h').1 (by simp)
 | miss h _ ih =>
  intro g
  cases g with
  | hit h' => exact absurd (h.unique h').1 (by simp)
  | miss _ g => exact ih g
theorem tryC_at (bs : List Int) (c : Cu) (n : Nt) : (tryC bs c n).2.2.at_ <= c.at_ + 16 := by
 have h1 := VN bs c n;have h2 := YY bs (ym bs c n).2 220;have h3 := zL bs (Zj bs (ym bs c n).2 220).2 4
 show (zn bs (Zj bs (ym bs c n).2 220).2 4).2.at_ <= _
 omega
theorem Yg.at_ (h : Yg bs n zs k c t c1) : c1.at_ <= c.at_ + 16 * k + 14 := by
 induction h with
 | last c =>
  have h1 := VN bs c n;have h2 := zL bs (ym bs c n).2 9;omega
 | @hit k c t h => have := tryC_at bs c n; omega
 | @miss k c c' t t' h _ ih => have := tryC_at bs c n; omega
theorem Yg.len (h : Yg bs n zs k c t c1) : t.back.length <= 200 := by
 induction h with
 | last c => simp
 | hit h => exact h.len
 | miss _ _ ih => exact ih

def trV (t : Tr) (a : Option Addr) (cap : Nat) : Value := .agg #[.int .i64 t.front.piece, .int .i64 t.front.at_, .int .i64 t.front.way, .int .i64 t.long, .slice a t.back.length cap]
def RetTn (C : Nat) (bs : List Int) (n : Nt) (zs : List Int) (c : Cu) (w : World) (e : Ending) (w' : World) : Prop :=
 ∃ t a cap c', e = .returned (trV t a cap) /\ Yg bs n zs 4 c t c' /\ Zk w' w.heap.size (.slice a t.back.length cap) t.back /\ Za w' C bs c' /\ Yi (fun k => k = C) w.heap.size w w'

structure TnW (C X R : Nat) (bs : List Int) (w0 : World) (v : Value) (c : Cu) (w : World) : Prop where
 cur : Za w C bs c
 xb : ∃ u1 u2, v = .agg #[u1, u2] /\ zg w X [u1, u2]
 rb : zg w R [.int .i64 0, .int .i64 0, .int .i64 0, .int .i64 0, .slice none 0 0]
 but : Yi (fun k => k = C) w0.heap.size w0 w
theorem TnW.draw (h : TnW C X R bs w0 v c w) (ho : Yi (fun k => k = C) w.heap.size w w') (hc : Za w' C bs c') (hX : C < X) (hR : C < R) : TnW C X R bs w0 v c' w' := by
 obtain ⟨u1, u2, e, hb⟩ := h.xb;exact ⟨hc, ⟨u1, u2, e, hb.blk ho.size (ho.block X hb.1 (show ¬ X = C by omega))⟩, h.rb.blk ho.size (ho.block R h.rb.1 (show ¬ R = C by omega)), XF h.but ho⟩
theorem ZQ (hb : Below w.heap.size w w') : Yi (fun k => k = C) w.heap.size w w' := ZC hb (Nat.le_refl _)
theorem yJ (ho : zP (fun k => k = C) w w') : Yi (fun k => k = C) w.heap.size w w' := yr ho (fun _ _ e => e) (Nat.le_refl _)
theorem TnW.below (h : TnW C X R bs w0 v c w) (hb : Below w.heap.size w w') (hX : C < X) (hR : C < R) : TnW C X R bs w0 v c w' := h.draw (ZQ hb) (h.cur.below hb) hX hR
theorem TnW.only {U : Nat} (h : TnW C X R bs w0 v c w) (ho : zP (fun k => k = U) w w') (hX : X < U) (hR : R < U) (hC : C < U) (h0 : w0.heap.size <= U) (hw : U < w.heap.size) : TnW C X R bs w0 v c w' := by
 obtain ⟨u1, u2, e, hb⟩ := h.xb;exact ⟨h.cur.of_below (U := C + 1) (ho.below (by omega) (fun k hk (e : k = U) => by omega)) (by omega), ⟨u1, u2, e, hb.onlyS ho (show ¬ X = U by omega)⟩, h.rb.onlyS ho (show ¬ R = U by omega), h.but.trans (yr ho (fun k hk (e : k = U) => by omega) h.but.size)⟩
def plV (ok : Bool) (t : Tr) (a : Option Addr) (cap : Nat) : List Value := [.bool ok, .int .i64 t.front.piece, .int .i64 t.front.at_, .int .i64 t.front.way, .int .i64 t.long, .slice a t.back.length cap]

set_option maxHeartbeats 8000000 in
theorem Vo (C : Nat) (bs : List Int) (c : Cu) (v : Value) (n : Nt) (zq : Option Addr) (zs : List Int) (zc : Nat) (w : World) (hcu : Za w C bs c) (hbs : yy bs) (ha : c.at_ <= 100000) (hv : qF C w v n) (hz : qH C w zq zs) (hsm : xr n) :
  Calls Tryz.prog 15 #[.pointer (some ⟨C, 0, none⟩), v, .slice zq zs.length zc] w (RetTn C bs n zs c w) := by
 have hCl := hcu.lt;obtain ⟨a, a2, ca, cc, hve, _, _⟩ := hv.now
 have HT0 : Hid (TnW C w.heap.size (w.heap.size + 1) bs w v c ((w.alloc (.cells #[.slice a n.pieces.length ca, .slice a2 n.joints.length cc] 26)).alloc (.cells #[.int .i64 0, .int .i64 0, .int .i64 0, .int .i64 0, .slice none 0 0] 32))) := by
  have hbb : Below w.heap.size w ((w.alloc (.cells #[.slice a n.pieces.length ca, .slice a2 n.joints.length cc] 26)).alloc (.cells #[.int .i64 0, .int .i64 0, .int .i64 0, .int .i64 0, .slice none 0 0] 32)) := bw0;exact ⟨hcu.below hbb, ⟨_, _, hve, (zf w #[.slice a n.pieces.length ca, .slice a2 n.joints.length cc] 26).alloc _⟩, zp _ _ _ (by simp), ZQ hbb⟩
 have HV0 := zd hv;have HZ0 := zd hz;subst hve;clear hv hz hcu;have HSM := zd hsm;clear hsm;go_enter Tryz.func15, Tryz.ntmps15;go_wp2_with fail;obtain ⟨wb, hwb⟩ : ∃ wb, ((w.alloc (.cells #[.slice a n.pieces.length ca, .slice a2 n.joints.length cc] 26)).alloc (.cells #[.int .i64 0, .int .i64 0, .int .i64 0, .int .i64 0, .slice none 0 0] 32)) = wb := ⟨_, rfl⟩;rw [hwb] at HT0 ⊢;clear hwb;obtain ⟨X, hX⟩ : ∃ X, w.heap.size = X := ⟨_, rfl⟩
 have hX' : w.heap.size <= X /\ X <= w.heap.size := by omega
 rw [hX] at HT0 hCl ⊢;clear hX;obtain ⟨R, hR⟩ : ∃ R, X + 1 = R := ⟨_, rfl⟩;have hR' : R = X + 1 := hR.symm;rw [hR] at HT0 ⊢
 have hXR : ¬ X = R /\ ¬ R = X /\ C < R /\ w.heap.size <= R := by omega
 clear hR hR'
 have hpl : n.pieces.length <= 1000000 := by have := (za HSM).pcs; omega
 go_loopw [7] (fun z wr => ∃ (i : Nat) (c1 : Cu), z = .int .i64 i /\ i <= 4 /\ c1.at_ + 16 * (4 - i) <= c.at_ + 64 /\ Hid (∀ t c', Yg bs n zs (4 - i) c1 t c' -> Yg bs n zs 4 c t c') /\ Hid (TnW C X R bs w (.agg #[.slice a n.pieces.length ca, .slice a2 n.joints.length cc]) c1 wr)) (fun z _ => 4 - (intOf z).toNat)
 case atStart => exact ⟨0, c, rfl, by omega, by omega, fun t c' h => h, HT0⟩
 case round =>
  clear HT0;obtain ⟨i, c1, rfl, hi, hat, HIS, HTR⟩ := hrel
  by_cases hlt : i < 4
  ·have hlt' : (i : Int) < 4 := by omega
   have hwi : IntKind.i64.wrap ((i : Int) + 1) = ((i + 1 : Nat) : Int) := (zj (by omega) (by omega)).trans (by omega);have hts := tryC_at bs c1 n;have HTC : Hid (tryC bs c1 n = ((ym bs c1 n).1, 1 + (Zj bs (ym bs c1 n).2 220).1.tdiv (1 + (zn bs (Zj bs (ym bs c1 n).2 220).2 4).1), (zn bs (Zj bs (ym bs c1 n).2 220).2 4).2)) := rfl;have hsa := VN bs c1 n;obtain ⟨⟨⟨sp, sat, sw⟩, c2⟩, hs1⟩ : ∃ x, ym bs c1 n = x := ⟨_, rfl⟩;rw [hs1] at HTC hsa;dsimp only at HTC hsa;have HS1 := zd hs1;have hr3 := xB bs c2 (show (0 : Int) < 220 by omega);have ha3 := YY bs c2 220;obtain ⟨r3, hr3'⟩ : ∃ r, (Zj bs c2 220).1 = r := ⟨_, rfl⟩;obtain ⟨c3, hc3⟩ : ∃ c3, (Zj bs c2 220).2 = c3 := ⟨_, rfl⟩;rw [hr3'] at hr3 HTC;rw [hc3] at ha3 HTC;have HR3 := zd (And.intro hr3' hc3);have hr4 := Zd bs c3 4;have ha4 := zL bs c3 4;obtain ⟨r4, hr4'⟩ : ∃ r, (zn bs c3 4).1 = r := ⟨_, rfl⟩;obtain ⟨c4, hc4⟩ : ∃ c4, (zn bs c3 4).2 = c4 := ⟨_, rfl⟩;rw [hr4'] at hr4 HTC;rw [hc4] at ha4 HTC;have HR4 := zd (And.intro hr4' hc4);clear hs1 hr3' hc3 hr4' hc4;have hd0 : 0 <= r3.tdiv (1 + r4) := Int.tdiv_nonneg hr3.1 (by omega);have hd1 : r3.tdiv (1 + r4) <= r3 := Int.tdiv_le_self _ hr3.1;obtain ⟨d, hd⟩ : ∃ d, r3.tdiv (1 + r4) = d := ⟨_, rfl⟩;rw [hd] at hd0 hd1 HTC;obtain ⟨lg, hlg⟩ : ∃ lg, 1 + d = lg := ⟨_, rfl⟩;rw [hlg] at HTC;have hw1 : IntKind.i64.wrap (1 + r4) = 1 + r4 := zj (by omega) (by omega)
   have hw2 : ((1 + r4) == 0) = false := by rw [beq_eq_false_iff_ne]; omega
   have hw5 : ¬ 1 + r4 = 0 := by omega
   have hw3 : IntKind.i64.wrap d = d := zj (by omega) (by omega);have hw4 : IntKind.i64.wrap (1 + d) = lg := (zj (by omega) (by omega)).trans hlg;have HLG := zd hlg;clear hlg;go_upto_region 4 with fail;have HTRx := HTR;obtain ⟨u1, u2, hu, hX0⟩ := (za HTR).xb;simp only [Value.agg.injEq, Array.mk.injEq, List.cons.injEq, and_true] at hu;obtain ⟨rfl, rfl⟩ := hu;have x0 := hX0.2.1 0 _ rfl;have x1 := hX0.2.1 1 _ rfl;have xl := hX0.1;clear hX0
   go_cut [8] (fun z wx => ∃ (U : Nat) (ok : Bool) (t : Tr) (ba : Option Addr) (bc : Nat), z = .pointer (some ⟨U, 0, none⟩) /\ (w.heap.size <= U /\ R < U) /\ Hid (YF n zs ⟨sp, sat, sw⟩ lg ok t) /\ zg wx U (plV ok t ba bc) /\ Hid (Zk wx (R + 1) (.slice ba t.back.length bc) t.back) /\ Hid (TnW C X R bs w (.agg #[.slice a n.pieces.length ca, .slice a2 n.joints.length cc]) c4 wx))
   case first =>
    refine yA (S := fun w' => w'.cell? ⟨X, 0, none⟩ = some (.slice a n.pieces.length ca) /\ w'.cell? ⟨X, 1, none⟩ = some (.slice a2 n.joints.length cc)) 14 (by kernel_rfl) ?_ (fun hHeld => ?_)
    ·exact ⟨by simpa using x0, by simpa using x1⟩
    refine yj 0 [12, 14] ?_;refine yj 1 [12, 14] ?_;refine yj 2 [4, 6, 8, 9, 10, 11, 12, 14] ?_;refine yj 3 [4, 6, 8, 9, 10, 11, 12, 14] ?_;refine yj 5 [6, 8, 9, 10, 11, 12, 14] ?_;refine yj 7 [8, 9, 10, 11, 12, 14] ?_;refine zo (rs := [4, 13]) (by kernel_rfl) (by simp) ?_;refine (zh.cons rfl (fun K hK => ?_) (zh.cons rfl (fun K hK => ?_) zh.nil))
    ·go_simp;have HTc := zd ((za HTR).below (bw0 : Below _ _ wr.drew) (by omega) (by omega));refine (UK C bs c1 _ n _ (za HTc).cur hbs (by omega) ((za HV0).on (za HTc).but) hpl (za HSM).lens).mono ?_;rw [za HS1];rintro e w2 ⟨rfl, hcu2, hb2⟩;dsimp only [spV];dsimp only at hcu2;have HTc := zd ((za HTc).draw hb2 hcu2 (by omega) (by omega))

     have hxx := (za HTc).xb;obtain ⟨u1, u2, hu, hXX⟩ := hxx;simp only [Value.agg.injEq, Array.mk.injEq, List.cons.injEq, and_true] at hu;obtain ⟨rfl, rfl⟩ := hu;have hHeld := And.intro (hXX.2.1 0 _ rfl) (hXX.2.1 1 _ rfl);have xlc := hXX.1;have rlc := (za HTc).rb.1;clear hXX;clear hcu2 hb2;refine hK.out _ _ (fun _ => hHeld) (fun _ => ?_);clear hK K
     (try simp only [sA])
     refine zo (rs := [6, 13]) (by kernel_rfl) (by simp) ?_;refine (zh.cons rfl (fun K hK => ?_) (zh.cons rfl (fun K hK => ?_) zh.nil))
     ·go_simp;refine (xA C bs c2 220 _ (za HTc).cur hbs (by omega) ⟨by omega, by omega⟩).mono ?_;rw [(za HR3).1, (za HR3).2];rintro e w3 ⟨rfl, hcu3, ho3⟩;dsimp only;have hb3 := yJ ho3;have HTc := zd ((za HTc).draw hb3 hcu3 (by omega) (by omega))

      have hxx := (za HTc).xb;obtain ⟨u1, u2, hu, hXX⟩ := hxx;simp only [Value.agg.injEq, Array.mk.injEq, List.cons.injEq, and_true] at hu;obtain ⟨rfl, rfl⟩ := hu;have hHeld := And.intro (hXX.2.1 0 _ rfl) (hXX.2.1 1 _ rfl);have xlc := hXX.1;have rlc := (za HTc).rb.1;clear hXX;clear hcu3 ho3 hb3;refine hK.out _ _ (fun _ => hHeld) (fun _ => ?_);clear hK K
      (try simp only [sA])
      refine zo (rs := [8, 13]) (by kernel_rfl) (by simp) ?_;refine (zh.cons rfl (fun K hK => ?_) (zh.cons rfl (fun K hK => ?_) zh.nil))
      ·go_simp;refine (Zp C bs c3 4 _ (za HTc).cur hbs (by omega) (by omega)).mono ?_;rw [(za HR4).1, (za HR4).2];rintro e w4 ⟨rfl, hcu4, ho4⟩;dsimp only;have hb4 := yJ ho4;have HTc := zd ((za HTc).draw hb4 hcu4 (by omega) (by omega))

       have hxx := (za HTc).xb;obtain ⟨u1, u2, hu, hXX⟩ := hxx;simp only [Value.agg.injEq, Array.mk.injEq, List.cons.injEq, and_true] at hu;obtain ⟨rfl, rfl⟩ := hu;have hHeld := And.intro (hXX.2.1 0 _ rfl) (hXX.2.1 1 _ rfl);have xlc := hXX.1;have rlc := (za HTc).rb.1;clear hXX;clear hcu4 ho4 hb4;refine hK.out _ _ (fun _ => hHeld) (fun _ => ?_);clear hK K
       (try simp only [sA])
       refine yj 9 [10, 11, 12, 14] ?_;refine yj 10 [11, 12, 14] ?_;refine yj 11 [12, 14] ?_;refine zo (rs := [12, 13]) (by kernel_rfl) (by simp) ?_;refine (zh.cons rfl (fun K hK => ?_) (zh.cons rfl (fun K hK => ?_) zh.nil))
       ·go_simp;refine (Yl _ n zq zs zc ⟨sp, sat, sw⟩ lg _ (za HV0 _ (za HTc).but) (za HZ0 _ (za HTc).but) (by omega) (by have := (za HSM).jts; omega) (za HSM).hle (za HSM).hnm).mono ?_;rintro e w5 ⟨⟨ok, t, ba, bc, hpa, rfl, hrow5⟩, hb5⟩;dsimp only;have hb5' := ZQ (C := C) hb5;have hcu5 := (za HTc).cur.below hb5;have HROW5 := zd (hrow5.mono (show R + 1 <= _ from (za HTc).rb.1));have HTc := zd ((za HTc).draw hb5' hcu5 (by omega) (by omega))

        have hxx := (za HTc).xb;obtain ⟨u1, u2, hu, hXX⟩ := hxx;simp only [Value.agg.injEq, Array.mk.injEq, List.cons.injEq, and_true] at hu;obtain ⟨rfl, rfl⟩ := hu;have hHeld := And.intro (hXX.2.1 0 _ rfl) (hXX.2.1 1 _ rfl);have xlc := hXX.1;have rlc := (za HTc).rb.1;clear hXX;have HPA := zd hpa;clear hpa hrow5 hb5 hb5' hcu5;refine hK.out _ _ (fun _ => hHeld) (fun _ => ?_);clear hK K
        (try simp only [sA])
        refine zo (rs := [13]) (by kernel_rfl) (by simp) ?_;refine (zh.cons rfl (fun K hK => ?_) zh.nil);go_simp;have HTcx := HTc;have HROW5x := HROW5;have hBU : zg (w5.alloc (.cells #[.bool false, .int .i64 0, .int .i64 0, .int .i64 0, .int .i64 0, .slice none 0 0] 129)) w5.heap.size [.bool false, .int .i64 0, .int .i64 0, .int .i64 0, .int .i64 0, .slice none 0 0] := zf _ _ _;have hUg : R < w5.heap.size := (za HTc).rb.1;have HTc := zd ((za HTc).below (bw0 : Below _ _ (w5.alloc (.cells #[.bool false, .int .i64 0, .int .i64 0, .int .i64 0, .int .i64 0, .slice none 0 0] 129))) (by omega) (by omega));have HROW5 := zd ((za HROW5).below (bw0 : Below _ _ (w5.alloc (.cells #[.bool false, .int .i64 0, .int .i64 0, .int .i64 0, .int .i64 0, .slice none 0 0] 129))))

        have hxx := (za HTc).xb;obtain ⟨u1, u2, hu, hXX⟩ := hxx;simp only [Value.agg.injEq, Array.mk.injEq, List.cons.injEq, and_true] at hu;obtain ⟨rfl, rfl⟩ := hu;have hHeld := And.intro (hXX.2.1 0 _ rfl) (hXX.2.1 1 _ rfl);have xlc := hXX.1;have rlc := (za HTc).rb.1;clear hXX;refine hK.out _ _ (fun _ => hHeld) (fun _ => ?_);clear hK K
        (try simp only [sA])
        refine zo (rs := [14]) (by kernel_rfl) (by simp) ?_;refine (zh.cons rfl (fun K hK => ?_) zh.nil);go_simp;refine hK.out _ _ (fun h => absurd rfl h) (fun _ => ?_);clear hK K
        (try simp only [sA])
        refine ZK (by kernel_rfl) ?_ _

        go_wp2_with fail;go_meet;refine ⟨_, ok, t, ba, bc, rfl, ⟨by omega, by omega⟩, HPA, zf _ _ _, ?_, ?_⟩
        ·exact (za HROW5x).below bw0
        ·exact (za HTcx).below bw0 (by omega) (by omega)
       ·go_simp;have hBU : zg (w4.alloc (.cells #[.bool false, .int .i64 0, .int .i64 0, .int .i64 0, .int .i64 0, .slice none 0 0] 129)) w4.heap.size [.bool false, .int .i64 0, .int .i64 0, .int .i64 0, .int .i64 0, .slice none 0 0] := zf _ _ _;have hUg : R < w4.heap.size := (za HTc).rb.1;have HTc := zd ((za HTc).below (bw0 : Below _ _ (w4.alloc (.cells #[.bool false, .int .i64 0, .int .i64 0, .int .i64 0, .int .i64 0, .slice none 0 0] 129))) (by omega) (by omega))

        have hxx := (za HTc).xb;obtain ⟨u1, u2, hu, hXX⟩ := hxx;simp only [Value.agg.injEq, Array.mk.injEq, List.cons.injEq, and_true] at hu;obtain ⟨rfl, rfl⟩ := hu;have hHeld := And.intro (hXX.2.1 0 _ rfl) (hXX.2.1 1 _ rfl);have xlc := hXX.1;have rlc := (za HTc).rb.1;clear hXX;refine hK.out _ _ (fun _ => hHeld) (fun _ => ?_);clear hK K
        (try simp only [sA])
        refine zo (rs := [12]) (by kernel_rfl) (by simp) ?_;refine (zh.cons rfl (fun K hK => ?_) zh.nil);go_simp;refine (Yl _ n zq zs zc ⟨sp, sat, sw⟩ lg _ (za HV0 _ (za HTc).but) (za HZ0 _ (za HTc).but) (by omega) (by have := (za HSM).jts; omega) (za HSM).hle (za HSM).hnm).mono ?_;rintro e w5 ⟨⟨ok, t, ba, bc, hpa, rfl, hrow5⟩, hb5⟩;dsimp only;have hb5' := ZQ (C := C) hb5;have hcu5 := (za HTc).cur.below hb5;have HROW5 := zd (hrow5.mono (show R + 1 <= _ from (za HTc).rb.1));have hUR := hrow5.lt
        have hUR2 : ∀ k, (Value.slice ba t.back.length bc).ownBlock = some k -> k ≠ w4.heap.size := fun k hk e => by have h1 := (hUR k hk).1; have h2 := hBU.1; omega
        have HTc := zd ((za HTc).draw hb5' hcu5 (by omega) (by omega));have hBU := hBU.blk (hb5').size ((hb5').block _ hBU.1 (show ¬ w4.heap.size = C by omega))

        have hxx := (za HTc).xb;obtain ⟨u1, u2, hu, hXX⟩ := hxx;simp only [Value.agg.injEq, Array.mk.injEq, List.cons.injEq, and_true] at hu;obtain ⟨rfl, rfl⟩ := hu;have hHeld := And.intro (hXX.2.1 0 _ rfl) (hXX.2.1 1 _ rfl);have xlc := hXX.1;have rlc := (za HTc).rb.1;clear hXX;have HPA := zd hpa;clear hpa hrow5 hb5 hb5' hcu5;refine hK.out _ _ (fun _ => hHeld) (fun _ => ?_);clear hK K
        (try simp only [sA])
        refine zo (rs := [14]) (by kernel_rfl) (by simp) ?_;refine (zh.cons rfl (fun K hK => ?_) zh.nil);have u0 := hBU.2.1 0 _ rfl;have u1 := hBU.2.1 1 _ rfl;have u2 := hBU.2.1 2 _ rfl;have u3 := hBU.2.1 3 _ rfl;have u4 := hBU.2.1 4 _ rfl;have u5 := hBU.2.1 5 _ rfl;have uz := hBU.2.2;have ul := hBU.1;go_simp;refine hK.out _ _ (fun h => absurd rfl h) (fun _ => ?_);clear hK K
        (try simp only [sA])
        refine ZK (by kernel_rfl) ?_ _

        have hBF := ((((((hBU.setI (i := 0) (by simp) (.bool ok)).setI (i := 1) (by simp) (.int .i64 t.front.piece)).setI (i := 2) (by simp) (.int .i64 t.front.at_)).setI (i := 3) (by simp) (.int .i64 t.front.way)).setI (i := 4) (by simp) (.int .i64 t.long)).setI (i := 5) (by simp) (.slice ba t.back.length bc));have hOF := ((((((ze (S := fun k => k = w4.heap.size) w5 (p := ⟨w4.heap.size, 0, none⟩) rfl (.bool ok)).trans (ze (S := fun k => k = w4.heap.size) _ (p := ⟨w4.heap.size, 1, none⟩) rfl (.int .i64 t.front.piece))).trans (ze (S := fun k => k = w4.heap.size) _ (p := ⟨w4.heap.size, 2, none⟩) rfl (.int .i64 t.front.at_))).trans (ze (S := fun k => k = w4.heap.size) _ (p := ⟨w4.heap.size, 3, none⟩) rfl (.int .i64 t.front.way))).trans (ze (S := fun k => k = w4.heap.size) _ (p := ⟨w4.heap.size, 4, none⟩) rfl (.int .i64 t.long))).trans (ze (S := fun k => k = w4.heap.size) _ (p := ⟨w4.heap.size, 5, none⟩) rfl (.slice ba t.back.length bc)));have HBF := zd hBF;have HOF := zd hOF;clear hBF hOF;go_wp2_with fail;go_meet;refine ⟨_, ok, t, ba, bc, rfl, ⟨by omega, by omega⟩, HPA, za HBF, ?_, ?_⟩
        ·exact (za HROW5).only (za HOF) (fun k hk e => hUR2 k hk e)
        ·exact (za HTc).only (za HOF) (by omega) (by omega) (by omega) (by omega) hBU.1
      ·go_simp;have hBU : zg (w3.alloc (.cells #[.bool false, .int .i64 0, .int .i64 0, .int .i64 0, .int .i64 0, .slice none 0 0] 129)) w3.heap.size [.bool false, .int .i64 0, .int .i64 0, .int .i64 0, .int .i64 0, .slice none 0 0] := zf _ _ _;have hUg : R < w3.heap.size := (za HTc).rb.1;have HTc := zd ((za HTc).below (bw0 : Below _ _ (w3.alloc (.cells #[.bool false, .int .i64 0, .int .i64 0, .int .i64 0, .int .i64 0, .slice none 0 0] 129))) (by omega) (by omega))

       have hxx := (za HTc).xb;obtain ⟨u1, u2, hu, hXX⟩ := hxx;simp only [Value.agg.injEq, Array.mk.injEq, List.cons.injEq, and_true] at hu;obtain ⟨rfl, rfl⟩ := hu;have hHeld := And.intro (hXX.2.1 0 _ rfl) (hXX.2.1 1 _ rfl);have xlc := hXX.1;have rlc := (za HTc).rb.1;clear hXX;refine hK.out _ _ (fun _ => hHeld) (fun _ => ?_);clear hK K
       (try simp only [sA])
       refine zo (rs := [8]) (by kernel_rfl) (by simp) ?_;refine (zh.cons rfl (fun K hK => ?_) zh.nil);go_simp;refine (Zp C bs c3 4 _ (za HTc).cur hbs (by omega) (by omega)).mono ?_;rw [(za HR4).1, (za HR4).2];rintro e w4 ⟨rfl, hcu4, ho4⟩;dsimp only;have hb4 := yJ ho4;have HTc := zd ((za HTc).draw hb4 hcu4 (by omega) (by omega));have hBU := hBU.blk (hb4).size ((hb4).block _ hBU.1 (show ¬ w3.heap.size = C by omega))

       have hxx := (za HTc).xb;obtain ⟨u1, u2, hu, hXX⟩ := hxx;simp only [Value.agg.injEq, Array.mk.injEq, List.cons.injEq, and_true] at hu;obtain ⟨rfl, rfl⟩ := hu;have hHeld := And.intro (hXX.2.1 0 _ rfl) (hXX.2.1 1 _ rfl);have xlc := hXX.1;have rlc := (za HTc).rb.1;clear hXX;clear hcu4 ho4 hb4;refine hK.out _ _ (fun _ => hHeld) (fun _ => ?_);clear hK K
       (try simp only [sA])
       refine yj 9 [10, 11, 12, 14] ?_;refine yj 10 [11, 12, 14] ?_;refine yj 11 [12, 14] ?_;refine zo (rs := [12]) (by kernel_rfl) (by simp) ?_;refine (zh.cons rfl (fun K hK => ?_) zh.nil);go_simp;refine (Yl _ n zq zs zc ⟨sp, sat, sw⟩ lg _ (za HV0 _ (za HTc).but) (za HZ0 _ (za HTc).but) (by omega) (by have := (za HSM).jts; omega) (za HSM).hle (za HSM).hnm).mono ?_;rintro e w5 ⟨⟨ok, t, ba, bc, hpa, rfl, hrow5⟩, hb5⟩;dsimp only;have hb5' := ZQ (C := C) hb5;have hcu5 := (za HTc).cur.below hb5;have HROW5 := zd (hrow5.mono (show R + 1 <= _ from (za HTc).rb.1));have hUR := hrow5.lt
       have hUR2 : ∀ k, (Value.slice ba t.back.length bc).ownBlock = some k -> k ≠ w3.heap.size := fun k hk e => by have h1 := (hUR k hk).1; have h2 := hBU.1; omega
       have HTc := zd ((za HTc).draw hb5' hcu5 (by omega) (by omega));have hBU := hBU.blk (hb5').size ((hb5').block _ hBU.1 (show ¬ w3.heap.size = C by omega))

       have hxx := (za HTc).xb;obtain ⟨u1, u2, hu, hXX⟩ := hxx;simp only [Value.agg.injEq, Array.mk.injEq, List.cons.injEq, and_true] at hu;obtain ⟨rfl, rfl⟩ := hu;have hHeld := And.intro (hXX.2.1 0 _ rfl) (hXX.2.1 1 _ rfl);have xlc := hXX.1;have rlc := (za HTc).rb.1;clear hXX;have HPA := zd hpa;clear hpa hrow5 hb5 hb5' hcu5;refine hK.out _ _ (fun _ => hHeld) (fun _ => ?_);clear hK K
       (try simp only [sA])
       refine zo (rs := [14]) (by kernel_rfl) (by simp) ?_;refine (zh.cons rfl (fun K hK => ?_) zh.nil);have u0 := hBU.2.1 0 _ rfl;have u1 := hBU.2.1 1 _ rfl;have u2 := hBU.2.1 2 _ rfl;have u3 := hBU.2.1 3 _ rfl;have u4 := hBU.2.1 4 _ rfl;have u5 := hBU.2.1 5 _ rfl;have uz := hBU.2.2;have ul := hBU.1;go_simp;refine hK.out _ _ (fun h => absurd rfl h) (fun _ => ?_);clear hK K
       (try simp only [sA])
       refine ZK (by kernel_rfl) ?_ _

       have hBF := ((((((hBU.setI (i := 0) (by simp) (.bool ok)).setI (i := 1) (by simp) (.int .i64 t.front.piece)).setI (i := 2) (by simp) (.int .i64 t.front.at_)).setI (i := 3) (by simp) (.int .i64 t.front.way)).setI (i := 4) (by simp) (.int .i64 t.long)).setI (i := 5) (by simp) (.slice ba t.back.length bc));have hOF := ((((((ze (S := fun k => k = w3.heap.size) w5 (p := ⟨w3.heap.size, 0, none⟩) rfl (.bool ok)).trans (ze (S := fun k => k = w3.heap.size) _ (p := ⟨w3.heap.size, 1, none⟩) rfl (.int .i64 t.front.piece))).trans (ze (S := fun k => k = w3.heap.size) _ (p := ⟨w3.heap.size, 2, none⟩) rfl (.int .i64 t.front.at_))).trans (ze (S := fun k => k = w3.heap.size) _ (p := ⟨w3.heap.size, 3, none⟩) rfl (.int .i64 t.front.way))).trans (ze (S := fun k => k = w3.heap.size) _ (p := ⟨w3.heap.size, 4, none⟩) rfl (.int .i64 t.long))).trans (ze (S := fun k => k = w3.heap.size) _ (p := ⟨w3.heap.size, 5, none⟩) rfl (.slice ba t.back.length bc)));have HBF := zd hBF;have HOF := zd hOF;clear hBF hOF;go_wp2_with fail;go_meet;refine ⟨_, ok, t, ba, bc, rfl, ⟨by omega, by omega⟩, HPA, za HBF, ?_, ?_⟩
       ·exact (za HROW5).only (za HOF) (fun k hk e => hUR2 k hk e)
       ·exact (za HTc).only (za HOF) (by omega) (by omega) (by omega) (by omega) hBU.1
     ·go_simp;have hBU : zg (w2.alloc (.cells #[.bool false, .int .i64 0, .int .i64 0, .int .i64 0, .int .i64 0, .slice none 0 0] 129)) w2.heap.size [.bool false, .int .i64 0, .int .i64 0, .int .i64 0, .int .i64 0, .slice none 0 0] := zf _ _ _;have hUg : R < w2.heap.size := (za HTc).rb.1;have HTc := zd ((za HTc).below (bw0 : Below _ _ (w2.alloc (.cells #[.bool false, .int .i64 0, .int .i64 0, .int .i64 0, .int .i64 0, .slice none 0 0] 129))) (by omega) (by omega))

      have hxx := (za HTc).xb;obtain ⟨u1, u2, hu, hXX⟩ := hxx;simp only [Value.agg.injEq, Array.mk.injEq, List.cons.injEq, and_true] at hu;obtain ⟨rfl, rfl⟩ := hu;have hHeld := And.intro (hXX.2.1 0 _ rfl) (hXX.2.1 1 _ rfl);have xlc := hXX.1;have rlc := (za HTc).rb.1;clear hXX;refine hK.out _ _ (fun _ => hHeld) (fun _ => ?_);clear hK K
      (try simp only [sA])
      refine zo (rs := [6]) (by kernel_rfl) (by simp) ?_;refine (zh.cons rfl (fun K hK => ?_) zh.nil);go_simp;refine (xA C bs c2 220 _ (za HTc).cur hbs (by omega) ⟨by omega, by omega⟩).mono ?_;rw [(za HR3).1, (za HR3).2];rintro e w3 ⟨rfl, hcu3, ho3⟩;dsimp only;have hb3 := yJ ho3;have HTc := zd ((za HTc).draw hb3 hcu3 (by omega) (by omega));have hBU := hBU.blk (hb3).size ((hb3).block _ hBU.1 (show ¬ w2.heap.size = C by omega))

      have hxx := (za HTc).xb;obtain ⟨u1, u2, hu, hXX⟩ := hxx;simp only [Value.agg.injEq, Array.mk.injEq, List.cons.injEq, and_true] at hu;obtain ⟨rfl, rfl⟩ := hu;have hHeld := And.intro (hXX.2.1 0 _ rfl) (hXX.2.1 1 _ rfl);have xlc := hXX.1;have rlc := (za HTc).rb.1;clear hXX;clear hcu3 ho3 hb3;refine hK.out _ _ (fun _ => hHeld) (fun _ => ?_);clear hK K
      (try simp only [sA])
      refine zo (rs := [8]) (by kernel_rfl) (by simp) ?_;refine (zh.cons rfl (fun K hK => ?_) zh.nil);go_simp;refine (Zp C bs c3 4 _ (za HTc).cur hbs (by omega) (by omega)).mono ?_;rw [(za HR4).1, (za HR4).2];rintro e w4 ⟨rfl, hcu4, ho4⟩;dsimp only;have hb4 := yJ ho4;have HTc := zd ((za HTc).draw hb4 hcu4 (by omega) (by omega));have hBU := hBU.blk (hb4).size ((hb4).block _ hBU.1 (show ¬ w2.heap.size = C by omega))

      have hxx := (za HTc).xb;obtain ⟨u1, u2, hu, hXX⟩ := hxx;simp only [Value.agg.injEq, Array.mk.injEq, List.cons.injEq, and_true] at hu;obtain ⟨rfl, rfl⟩ := hu;have hHeld := And.intro (hXX.2.1 0 _ rfl) (hXX.2.1 1 _ rfl);have xlc := hXX.1;have rlc := (za HTc).rb.1;clear hXX;clear hcu4 ho4 hb4;refine hK.out _ _ (fun _ => hHeld) (fun _ => ?_);clear hK K
      (try simp only [sA])
      refine yj 9 [10, 11, 12, 14] ?_;refine yj 10 [11, 12, 14] ?_;refine yj 11 [12, 14] ?_;refine zo (rs := [12]) (by kernel_rfl) (by simp) ?_;refine (zh.cons rfl (fun K hK => ?_) zh.nil);go_simp;refine (Yl _ n zq zs zc ⟨sp, sat, sw⟩ lg _ (za HV0 _ (za HTc).but) (za HZ0 _ (za HTc).but) (by omega) (by have := (za HSM).jts; omega) (za HSM).hle (za HSM).hnm).mono ?_;rintro e w5 ⟨⟨ok, t, ba, bc, hpa, rfl, hrow5⟩, hb5⟩;dsimp only;have hb5' := ZQ (C := C) hb5;have hcu5 := (za HTc).cur.below hb5;have HROW5 := zd (hrow5.mono (show R + 1 <= _ from (za HTc).rb.1));have hUR := hrow5.lt
      have hUR2 : ∀ k, (Value.slice ba t.back.length bc).ownBlock = some k -> k ≠ w2.heap.size := fun k hk e => by have h1 := (hUR k hk).1; have h2 := hBU.1; omega
      have HTc := zd ((za HTc).draw hb5' hcu5 (by omega) (by omega));have hBU := hBU.blk (hb5').size ((hb5').block _ hBU.1 (show ¬ w2.heap.size = C by omega))

      have hxx := (za HTc).xb;obtain ⟨u1, u2, hu, hXX⟩ := hxx;simp only [Value.agg.injEq, Array.mk.injEq, List.cons.injEq, and_true] at hu;obtain ⟨rfl, rfl⟩ := hu;have hHeld := And.intro (hXX.2.1 0 _ rfl) (hXX.2.1 1 _ rfl);have xlc := hXX.1;have rlc := (za HTc).rb.1;clear hXX;have HPA := zd hpa;clear hpa hrow5 hb5 hb5' hcu5;refine hK.out _ _ (fun _ => hHeld) (fun _ => ?_);clear hK K
      (try simp only [sA])
      refine zo (rs := [14]) (by kernel_rfl) (by simp) ?_;refine (zh.cons rfl (fun K hK => ?_) zh.nil);have u0 := hBU.2.1 0 _ rfl;have u1 := hBU.2.1 1 _ rfl;have u2 := hBU.2.1 2 _ rfl;have u3 := hBU.2.1 3 _ rfl;have u4 := hBU.2.1 4 _ rfl;have u5 := hBU.2.1 5 _ rfl;have uz := hBU.2.2;have ul := hBU.1;go_simp;refine hK.out _ _ (fun h => absurd rfl h) (fun _ => ?_);clear hK K
      (try simp only [sA])
      refine ZK (by kernel_rfl) ?_ _

      have hBF := ((((((hBU.setI (i := 0) (by simp) (.bool ok)).setI (i := 1) (by simp) (.int .i64 t.front.piece)).setI (i := 2) (by simp) (.int .i64 t.front.at_)).setI (i := 3) (by simp) (.int .i64 t.front.way)).setI (i := 4) (by simp) (.int .i64 t.long)).setI (i := 5) (by simp) (.slice ba t.back.length bc));have hOF := ((((((ze (S := fun k => k = w2.heap.size) w5 (p := ⟨w2.heap.size, 0, none⟩) rfl (.bool ok)).trans (ze (S := fun k => k = w2.heap.size) _ (p := ⟨w2.heap.size, 1, none⟩) rfl (.int .i64 t.front.piece))).trans (ze (S := fun k => k = w2.heap.size) _ (p := ⟨w2.heap.size, 2, none⟩) rfl (.int .i64 t.front.at_))).trans (ze (S := fun k => k = w2.heap.size) _ (p := ⟨w2.heap.size, 3, none⟩) rfl (.int .i64 t.front.way))).trans (ze (S := fun k => k = w2.heap.size) _ (p := ⟨w2.heap.size, 4, none⟩) rfl (.int .i64 t.long))).trans (ze (S := fun k => k = w2.heap.size) _ (p := ⟨w2.heap.size, 5, none⟩) rfl (.slice ba t.back.length bc)));have HBF := zd hBF;have HOF := zd hOF;clear hBF hOF;go_wp2_with fail;go_meet;refine ⟨_, ok, t, ba, bc, rfl, ⟨by omega, by omega⟩, HPA, za HBF, ?_, ?_⟩
      ·exact (za HROW5).only (za HOF) (fun k hk e => hUR2 k hk e)
      ·exact (za HTc).only (za HOF) (by omega) (by omega) (by omega) (by omega) hBU.1
    ·go_simp;have HTc := zd ((za HTR).below (bw0 : Below _ _ wr.drew) (by omega) (by omega));have hBU : zg (wr.drew.alloc (.cells #[.bool false, .int .i64 0, .int .i64 0, .int .i64 0, .int .i64 0, .slice none 0 0] 129)) wr.heap.size [.bool false, .int .i64 0, .int .i64 0, .int .i64 0, .int .i64 0, .slice none 0 0] := zf _ _ _;have hUg : R < wr.heap.size := (za HTc).rb.1;have HTc := zd ((za HTc).below (bw0 : Below _ _ (wr.drew.alloc (.cells #[.bool false, .int .i64 0, .int .i64 0, .int .i64 0, .int .i64 0, .slice none 0 0] 129))) (by omega) (by omega))

     have hxx := (za HTc).xb;obtain ⟨u1, u2, hu, hXX⟩ := hxx;simp only [Value.agg.injEq, Array.mk.injEq, List.cons.injEq, and_true] at hu;obtain ⟨rfl, rfl⟩ := hu;have hHeld := And.intro (hXX.2.1 0 _ rfl) (hXX.2.1 1 _ rfl);have xlc := hXX.1;have rlc := (za HTc).rb.1;clear hXX;refine hK.out _ _ (fun _ => hHeld) (fun _ => ?_);clear hK K
     (try simp only [sA])
     refine zo (rs := [4]) (by kernel_rfl) (by simp) ?_;refine (zh.cons rfl (fun K hK => ?_) zh.nil);go_simp;refine (UK C bs c1 _ n _ (za HTc).cur hbs (by omega) ((za HV0).on (za HTc).but) hpl (za HSM).lens).mono ?_;rw [za HS1];rintro e w2 ⟨rfl, hcu2, hb2⟩;dsimp only [spV];dsimp only at hcu2;have HTc := zd ((za HTc).draw hb2 hcu2 (by omega) (by omega));have hBU := hBU.blk (hb2).size ((hb2).block _ hBU.1 (show ¬ wr.heap.size = C by omega))

     have hxx := (za HTc).xb;obtain ⟨u1, u2, hu, hXX⟩ := hxx;simp only [Value.agg.injEq, Array.mk.injEq, List.cons.injEq, and_true] at hu;obtain ⟨rfl, rfl⟩ := hu;have hHeld := And.intro (hXX.2.1 0 _ rfl) (hXX.2.1 1 _ rfl);have xlc := hXX.1;have rlc := (za HTc).rb.1;clear hXX;clear hcu2 hb2;refine hK.out _ _ (fun _ => hHeld) (fun _ => ?_);clear hK K
     (try simp only [sA])
     refine zo (rs := [6]) (by kernel_rfl) (by simp) ?_;refine (zh.cons rfl (fun K hK => ?_) zh.nil);go_simp;refine (xA C bs c2 220 _ (za HTc).cur hbs (by omega) ⟨by omega, by omega⟩).mono ?_;rw [(za HR3).1, (za HR3).2];rintro e w3 ⟨rfl, hcu3, ho3⟩;dsimp only;have hb3 := yJ ho3;have HTc := zd ((za HTc).draw hb3 hcu3 (by omega) (by omega));have hBU := hBU.blk (hb3).size ((hb3).block _ hBU.1 (show ¬ wr.heap.size = C by omega))

     have hxx := (za HTc).xb;obtain ⟨u1, u2, hu, hXX⟩ := hxx;simp only [Value.agg.injEq, Array.mk.injEq, List.cons.injEq, and_true] at hu;obtain ⟨rfl, rfl⟩ := hu;have hHeld := And.intro (hXX.2.1 0 _ rfl) (hXX.2.1 1 _ rfl);have xlc := hXX.1;have rlc := (za HTc).rb.1;clear hXX;clear hcu3 ho3 hb3;refine hK.out _ _ (fun _ => hHeld) (fun _ => ?_);clear hK K
     (try simp only [sA])
     refine zo (rs := [8]) (by kernel_rfl) (by simp) ?_;refine (zh.cons rfl (fun K hK => ?_) zh.nil);go_simp;refine (Zp C bs c3 4 _ (za HTc).cur hbs (by omega) (by omega)).mono ?_;rw [(za HR4).1, (za HR4).2];rintro e w4 ⟨rfl, hcu4, ho4⟩;dsimp only;have hb4 := yJ ho4;have HTc := zd ((za HTc).draw hb4 hcu4 (by omega) (by omega));have hBU := hBU.blk (hb4).size ((hb4).block _ hBU.1 (show ¬ wr.heap.size = C by omega))

     have hxx := (za HTc).xb;obtain ⟨u1, u2, hu, hXX⟩ := hxx;simp only [Value.agg.injEq, Array.mk.injEq, List.cons.injEq, and_true] at hu;obtain ⟨rfl, rfl⟩ := hu;have hHeld := And.intro (hXX.2.1 0 _ rfl) (hXX.2.1 1 _ rfl);have xlc := hXX.1;have rlc := (za HTc).rb.1;clear hXX;clear hcu4 ho4 hb4;refine hK.out _ _ (fun _ => hHeld) (fun _ => ?_);clear hK K
     (try simp only [sA])
     refine yj 9 [10, 11, 12, 14] ?_;refine yj 10 [11, 12, 14] ?_;refine yj 11 [12, 14] ?_;refine zo (rs := [12]) (by kernel_rfl) (by simp) ?_;refine (zh.cons rfl (fun K hK => ?_) zh.nil);go_simp;refine (Yl _ n zq zs zc ⟨sp, sat, sw⟩ lg _ (za HV0 _ (za HTc).but) (za HZ0 _ (za HTc).but) (by omega) (by have := (za HSM).jts; omega) (za HSM).hle (za HSM).hnm).mono ?_;rintro e w5 ⟨⟨ok, t, ba, bc, hpa, rfl, hrow5⟩, hb5⟩;dsimp only;have hb5' := ZQ (C := C) hb5;have hcu5 := (za HTc).cur.below hb5;have HROW5 := zd (hrow5.mono (show R + 1 <= _ from (za HTc).rb.1));have hUR := hrow5.lt
     have hUR2 : ∀ k, (Value.slice ba t.back.length bc).ownBlock = some k -> k ≠ wr.heap.size := fun k hk e => by have h1 := (hUR k hk).1; have h2 := hBU.1; omega
     have HTc := zd ((za HTc).draw hb5' hcu5 (by omega) (by omega));have hBU := hBU.blk (hb5').size ((hb5').block _ hBU.1 (show ¬ wr.heap.size = C by omega))

     have hxx := (za HTc).xb;obtain ⟨u1, u2, hu, hXX⟩ := hxx;simp only [Value.agg.injEq, Array.mk.injEq, List.cons.injEq, and_true] at hu;obtain ⟨rfl, rfl⟩ := hu;have hHeld := And.intro (hXX.2.1 0 _ rfl) (hXX.2.1 1 _ rfl);have xlc := hXX.1;have rlc := (za HTc).rb.1;clear hXX;have HPA := zd hpa;clear hpa hrow5 hb5 hb5' hcu5;refine hK.out _ _ (fun _ => hHeld) (fun _ => ?_);clear hK K
     (try simp only [sA])
     refine zo (rs := [14]) (by kernel_rfl) (by simp) ?_;refine (zh.cons rfl (fun K hK => ?_) zh.nil);have u0 := hBU.2.1 0 _ rfl;have u1 := hBU.2.1 1 _ rfl;have u2 := hBU.2.1 2 _ rfl;have u3 := hBU.2.1 3 _ rfl;have u4 := hBU.2.1 4 _ rfl;have u5 := hBU.2.1 5 _ rfl;have uz := hBU.2.2;have ul := hBU.1;go_simp;refine hK.out _ _ (fun h => absurd rfl h) (fun _ => ?_);clear hK K
     (try simp only [sA])
     refine ZK (by kernel_rfl) ?_ _

     have hBF := ((((((hBU.setI (i := 0) (by simp) (.bool ok)).setI (i := 1) (by simp) (.int .i64 t.front.piece)).setI (i := 2) (by simp) (.int .i64 t.front.at_)).setI (i := 3) (by simp) (.int .i64 t.front.way)).setI (i := 4) (by simp) (.int .i64 t.long)).setI (i := 5) (by simp) (.slice ba t.back.length bc));have hOF := ((((((ze (S := fun k => k = wr.heap.size) w5 (p := ⟨wr.heap.size, 0, none⟩) rfl (.bool ok)).trans (ze (S := fun k => k = wr.heap.size) _ (p := ⟨wr.heap.size, 1, none⟩) rfl (.int .i64 t.front.piece))).trans (ze (S := fun k => k = wr.heap.size) _ (p := ⟨wr.heap.size, 2, none⟩) rfl (.int .i64 t.front.at_))).trans (ze (S := fun k => k = wr.heap.size) _ (p := ⟨wr.heap.size, 3, none⟩) rfl (.int .i64 t.front.way))).trans (ze (S := fun k => k = wr.heap.size) _ (p := ⟨wr.heap.size, 4, none⟩) rfl (.int .i64 t.long))).trans (ze (S := fun k => k = wr.heap.size) _ (p := ⟨wr.heap.size, 5, none⟩) rfl (.slice ba t.back.length bc)));have HBF := zd hBF;have HOF := zd hOF;clear hBF hOF;go_wp2_with fail;go_meet;refine ⟨_, ok, t, ba, bc, rfl, ⟨by omega, by omega⟩, HPA, za HBF, ?_, ?_⟩
     ·exact (za HROW5).only (za HOF) (fun k hk e => hUR2 k hk e)
     ·exact (za HTc).only (za HOF) (by omega) (by omega) (by omega) (by omega) hBU.1
   case rest =>
    obtain ⟨U, ok, t, ba, bc, rfl, hU, HPA, hBU, HROW, HTU⟩ := hcut;clear HTR HTRx x0 x1 xl;have b0 := hBU.2.1 0 _ rfl;have b1 := hBU.2.1 1 _ rfl;have b2 := hBU.2.1 2 _ rfl;have b3 := hBU.2.1 3 _ rfl;have b4 := hBU.2.1 4 _ rfl;have b5 := hBU.2.1 5 _ rfl;have bl := hBU.1
    have hRU : ¬ U = R /\ ¬ R = U := by omega
    cases ok with
    | false =>
     have HIS2 : Hid (∀ t c', Yg bs n zs (4 - (i + 1)) c4 t c' -> Yg bs n zs 4 c t c') := fun t' c' h => by
      refine za HIS t' c' ?_;rw [show 4 - i = (4 - (i + 1)) + 1 by omega];refine .miss (t' := t) ?_ ?_
      ·rw [za HTC]; exact za HPA
      ·rw [za HTC]; exact h
     go_wp2_with fail;exact ⟨⟨i + 1, c4, rfl, by omega, by omega, HIS2, HTU⟩, by simp [intOf]; omega⟩
    | true =>
     have HTI : Hid (Yg bs n zs 4 c t c4) := by
      refine za HIS t c4 ?_;rw [show 4 - i = (3 - i) + 1 by omega];have h1 : Yg bs n zs (3 - i + 1) c1 t (tryC bs c1 n).2.2 := .hit (by rw [za HTC]; exact za HPA);rw [za HTC] at h1;exact h1
     have hRB := (za HTU).rb;have r0 := hRB.2.1 0 _ rfl;have r1 := hRB.2.1 1 _ rfl;have r2 := hRB.2.1 2 _ rfl;have r3 := hRB.2.1 3 _ rfl;have r4 := hRB.2.1 4 _ rfl;have rz := hRB.2.2;have rl := hRB.1;have hbf := ((((hRB.setI (i := 0) (by simp) (.int .i64 t.front.piece)).setI (i := 1) (by simp) (.int .i64 t.front.at_)).setI (i := 2) (by simp) (.int .i64 t.front.way)).setI (i := 3) (by simp) (.int .i64 t.long)).setI (i := 4) (by simp) (.slice ba t.back.length bc);have HF := zd (And.intro (hbf.2.1 0 _ rfl) (And.intro (hbf.2.1 1 _ rfl) (And.intro (hbf.2.1 2 _ rfl) (And.intro (hbf.2.1 3 _ rfl) (hbf.2.1 4 _ rfl)))));have hoR := ((((ze (S := fun k => k = R) wc (p := ⟨R, 0, none⟩) rfl (.int .i64 t.front.piece)).trans (ze (S := fun k => k = R) _ (p := ⟨R, 1, none⟩) rfl (.int .i64 t.front.at_))).trans (ze (S := fun k => k = R) _ (p := ⟨R, 2, none⟩) rfl (.int .i64 t.front.way))).trans (ze (S := fun k => k = R) _ (p := ⟨R, 3, none⟩) rfl (.int .i64 t.long))).trans (ze (S := fun k => k = R) _ (p := ⟨R, 4, none⟩) rfl (.slice ba t.back.length bc));have HOR := zd hoR;clear hbf hoR hRB;go_wp2_with fail;obtain ⟨f0, f1, f2, f3, f4⟩ := za HF;refine bodyPost_ret (v := trV t ba bc) (by simp [results, Tryz.results15, go_sem, f0, f1, f2, f3, f4, trV]) rfl ?_;have hbw := (za HTU).but.size;refine ⟨t, ba, bc, c4, rfl, za HTI, ((za HROW).only (za HOR) (fun k hk (e : k = R) => by have := ((za HROW).lt k hk).1; omega)).mono (by omega), ?_, ?_⟩
     ·exact (za HTU).cur.of_below (U := C + 1) ((za HOR).below (by have := (za HTU).cur.lt; omega) (fun k hk (e : k = R) => by omega)) (by omega)
     ·exact (za HTU).but.trans (yr (za HOR) (fun k hk (e : k = R) => by omega) hbw)
  ·have hlt' : ¬ (i : Int) < 4 := by omega
   have hi4 : i = 4 := by omega
   subst hi4;have hsa := VN bs c1 n;have HLT : Hid (Yg bs n zs 4 c ⟨(ym bs c1 n).1, 1 + (zn bs (ym bs c1 n).2 9).1, []⟩ (zn bs (ym bs c1 n).2 9).2) := za HIS _ _ (.last c1);obtain ⟨⟨⟨sp, sat, sw⟩, c2⟩, hs1⟩ : ∃ x, ym bs c1 n = x := ⟨_, rfl⟩;rw [hs1] at HLT hsa;dsimp only at HLT hsa;have HS1 := zd hs1;have hr3 := Zd bs c2 9;obtain ⟨r3, hr3'⟩ : ∃ r, (zn bs c2 9).1 = r := ⟨_, rfl⟩;obtain ⟨c3, hc3⟩ : ∃ c3, (zn bs c2 9).2 = c3 := ⟨_, rfl⟩;rw [hr3', hc3] at HLT;rw [hr3'] at hr3;have HR3 := zd (And.intro hr3' hc3);clear hs1 hr3' hc3;have hw1 : IntKind.i64.wrap (1 + r3) = 1 + r3 := zj (by omega) (by omega);obtain ⟨u1, u2, hu, hX0⟩ := (za HTR).xb;simp only [Value.agg.injEq, Array.mk.injEq, List.cons.injEq, and_true] at hu;obtain ⟨rfl, rfl⟩ := hu;have x0 := hX0.2.1 0 _ rfl;have x1 := hX0.2.1 1 _ rfl;have xl := hX0.1;clear hX0;go_wp2_with fail;refine (UK C bs c1 _ n _ (za HTR).cur hbs (by omega) ((za HV0).on (za HTR).but) hpl (za HSM).lens).mono ?_;rw [za HS1];rintro e w2 ⟨rfl, hcu2, hb2⟩;dsimp only [spV];dsimp only at hcu2;have HT2 := zd ((za HTR).draw hb2 hcu2 (by omega) (by omega));clear hcu2 hb2 x0 x1 xl;go_wp2_with fail;refine (Zp C bs c2 9 _ (za HT2).cur hbs (by omega) (by omega)).mono ?_;rw [(za HR3).1, (za HR3).2];rintro e w3 ⟨rfl, hcu3, ho3⟩;have HTU := zd ((za HT2).draw (yJ ho3) hcu3 (by omega) (by omega));clear hcu3 ho3;have HTI : Hid (Yg bs n zs 4 c ⟨⟨sp, sat, sw⟩, 1 + r3, []⟩ c3) := za HLT;have HROW : Hid (Zk w3 (R + 1) (.slice none ([] : List St).length 0) []) := zV.nil _ _ _ _ _

   have hRB := (za HTU).rb;have r0 := hRB.2.1 0 _ rfl;have r1 := hRB.2.1 1 _ rfl;have r2 := hRB.2.1 2 _ rfl;have rr3 := hRB.2.1 3 _ rfl;have r4 := hRB.2.1 4 _ rfl;have rz := hRB.2.2;have rl := hRB.1;have hbf := ((((hRB.setI (i := 0) (by simp) (.int .i64 sp)).setI (i := 1) (by simp) (.int .i64 sat)).setI (i := 2) (by simp) (.int .i64 sw)).setI (i := 3) (by simp) (.int .i64 (1 + r3))).setI (i := 4) (by simp) (.slice none 0 0);have HF := zd (And.intro (hbf.2.1 0 _ rfl) (And.intro (hbf.2.1 1 _ rfl) (And.intro (hbf.2.1 2 _ rfl) (And.intro (hbf.2.1 3 _ rfl) (hbf.2.1 4 _ rfl)))));have hoR := ((((ze (S := fun k => k = R) w3 (p := ⟨R, 0, none⟩) rfl (.int .i64 sp)).trans (ze (S := fun k => k = R) _ (p := ⟨R, 1, none⟩) rfl (.int .i64 sat))).trans (ze (S := fun k => k = R) _ (p := ⟨R, 2, none⟩) rfl (.int .i64 sw))).trans (ze (S := fun k => k = R) _ (p := ⟨R, 3, none⟩) rfl (.int .i64 (1 + r3)))).trans (ze (S := fun k => k = R) _ (p := ⟨R, 4, none⟩) rfl (.slice none 0 0));have HOR := zd hoR;clear hbf hoR hRB;go_wp2_with fail;obtain ⟨f0, f1, f2, f3, f4⟩ := za HF;refine bodyPost_ret (v := trV ⟨⟨sp, sat, sw⟩, 1 + r3, []⟩ none 0) (by simp [results, Tryz.results15, go_sem, f0, f1, f2, f3, f4, trV]) rfl ?_;have hbw := (za HTU).but.size;refine ⟨⟨⟨sp, sat, sw⟩, 1 + r3, []⟩, none, 0, c3, rfl, za HTI, ((za HROW).only (za HOR) (fun k hk (e : k = R) => by have := ((za HROW).lt k hk).1; omega)).mono (by omega), ?_, ?_⟩
   ·exact (za HTU).cur.of_below (U := C + 1) ((za HOR).below (by have := (za HTU).cur.lt; omega) (fun k hk (e : k = R) => by omega)) (by omega)
   ·exact (za HTU).but.trans (yr (za HOR) (fun k hk (e : k = R) => by omega) hbw)

theorem xJ (i : Nat) : (ZX i).size <= i + 2 := by
 have := decS_size i;unfold ZX;rw [ByteArray.size_append, Yr];omega
def Xg (ps : List Pc) : Prop := ∀ p ∈ ps, p.name.size <= 1000 /\ 0 <= p.len /\ p.len <= 1000
def vR (js : List Jt) : Prop := ∀ j ∈ js, j.ends.length <= 1000 /\ j.name.size <= 1000
theorem Xg.snoc {ps : List Pc} {p : Pc} (h : Xg ps) (hp : p.name.size <= 1000 /\ 0 <= p.len /\ p.len <= 1000) : Xg (ps ++ [p]) := by
 intro q hq
 rcases List.mem_append.1 hq with hq | hq
 ·exact h q hq
 ·simp at hq
  subst hq;exact hp
theorem vR.snoc {js : List Jt} {j : Jt} (h : vR js) (hp : j.ends.length <= 1000 /\ j.name.size <= 1000) : vR (js ++ [j]) := by
 intro q hq
 rcases List.mem_append.1 hq with hq | hq
 ·exact h q hq
 ·simp at hq
  subst hq;exact hp
theorem vW (bs : List Int) (c : Cu) (n : Nt) (h : Xg n.pieces) (hl : n.pieces.length <= 900) : Xg (zI bs c n).1.pieces := by
 have h1 := xJ n.pieces.length;have h2 := xB bs c (show (0 : Int) < 300 by omega);exact h.snoc ⟨by dsimp only; omega, by dsimp only; omega, by dsimp only; omega⟩
theorem three_sm (bs : List Int) (c : Cu) (n : Nt) (h : Xg n.pieces) (hl : n.pieces.length <= 800) : Xg (XU bs c n).1.pieces /\ (XU bs c n).1.pieces.length = n.pieces.length + 3 := by
 have l1 := Ys bs c n;have l2 := Ys bs (zI bs c n).2 (zI bs c n).1;have l3 := Ys bs (zI bs (zI bs c n).2 (zI bs c n).1).2 (zI bs (zI bs c n).2 (zI bs c n).1).1;have h1 := vW bs c n h (by omega);have h2 := vW bs (zI bs c n).2 (zI bs c n).1 h1 (by omega);have h3 := vW bs (zI bs (zI bs c n).2 (zI bs c n).1).2 (zI bs (zI bs c n).2 (zI bs c n).1).1 h2 (by omega);exact ⟨h3, by unfold XU; omega⟩
theorem stationGo_sm (bs : List Int) : ∀ (k p : Nat) (n : Nt) (c : Cu), n.pieces.length + 3 * k <= 100 -> n.joints.length + 2 * k <= 100 -> Xg n.pieces -> vR n.joints →
  Xg (Zn bs k p n c).2.1.pieces /\ vR (Zn bs k p n c).2.1.joints /\ (Zn bs k p n c).2.1.pieces.length <= 100 /\ (Zn bs k p n c).2.1.joints.length <= 100 := by
 intro k
 induction k with
 | zero => intro p n c h1 h2 h3 h4; exact ⟨h3, h4, by simp only [Zn]; omega, by simp only [Zn]; omega⟩
 | succ k ih =>
  intro p n c h1 h2 h3 h4;unfold Zn;obtain ⟨hs, hsl⟩ := three_sm bs c n h3 (by omega);have n1 := xJ (100 + n.joints.length);have n2 := xJ (100 + (n.joints.length + 1));refine ih _ _ _ ?_ ?_ hs ?_
  ·show (XU bs c n).1.pieces.length + 3 * k <= 100
   omega
  ·simp only [List.length_append, List.length_singleton];omega
  ·exact (h4.snoc (j := swA n.joints.length p n.pieces.length (n.pieces.length + 1)) ⟨by simp [swA], by show (ZX (100 + n.joints.length)).size <= 1000; omega⟩).snoc (j := swB (n.joints.length + 1) (n.pieces.length + 2) n.pieces.length (n.pieces.length + 1)) ⟨by simp [swB], by show (ZX (100 + (n.joints.length + 1))).size <= 1000; omega⟩
theorem endJ_sm (p s : Nat) : (XD p s).ends.length <= 1000 /\ (XD p s).name.size <= 1000 := ⟨by simp [XD], by show (⟨#[]⟩ : ByteArray).size <= 1000; simp [ByteArray.size]⟩
def NtSm (n : Nt) : Prop := Xg n.pieces /\ vR n.joints /\ n.pieces.length <= 1000 /\ n.joints.length <= 1000
theorem small_of (h : NtSm n) : xr n :=
 have ⟨h1, h2, h3, h4⟩ := h
 ⟨by omega, by omega, fun i hi => by have := h2 _ (List.getElem_mem hi); omega, fun i hi => by have := h1 _ (List.getElem_mem hi); omega, fun i hi => by have := h1 _ (List.getElem_mem hi); omega⟩
theorem stationC_sm (bs : List Int) (c : Cu) : NtSm (yV bs c).1 := by
 have h0 := Zd bs c 3;have h1 : Xg (ZI bs c).1.pieces := vW bs (zn bs c 3).2 ⟨[], []⟩ (fun p hp => by cases hp) (by simp);have l1 : (ZI bs c).1.pieces.length = 1 := Ys bs (zn bs c 3).2 ⟨[], []⟩;have h2 : vR (ZI bs c).1.joints := vR.snoc (js := []) (fun p hp => by cases hp) (endJ_sm 0 0);have l2 : (ZI bs c).1.joints.length = 1 := rfl;obtain ⟨g1, g2, g3, g4⟩ := stationGo_sm bs (1 + (zn bs c 3).1).toNat 0 (ZI bs c).1 (ZI bs c).2 (by omega) (by omega) h1 h2;refine ⟨g1, g2.snoc (endJ_sm _ _), (by show List.length (Zn bs (1 + (zn bs c 3).1).toNat 0 (ZI bs c).1 (ZI bs c).2).2.1.pieces <= 1000; omega), ?_⟩
 show List.length ((Zn bs (1 + (zn bs c 3).1).toNat 0 (ZI bs c).1 (ZI bs c).2).2.1.joints ++ [_]) <= 1000
 rw [List.length_append, List.length_singleton];omega
theorem netGo1_sm (bs : List Int) : ∀ (k : Nat) (ps : List Pc) (es : List Ed) (c : Cu), ps.length + k <= 100 -> Xg ps -> Xg (YL bs k ps es c).1 := by
 intro k
 induction k with
 | zero => intro ps es c _ h; exact h
 | succ k ih =>
  intro ps es c hl h;unfold YL;refine ih _ _ _ (by rw [List.length_append, List.length_singleton]; omega) (h.snoc ?_);have h1 := xJ ps.length;have h2 := xB bs c (show (0 : Int) < 300 by omega);unfold Up;dsimp only;exact ⟨by omega, by omega, by omega⟩
theorem netGo3_sm (bs : List Int) : ∀ (f : Nat) (js : List Jt) (es : List Ed) (c : Cu), js.length + f <= 100 -> es.length <= 100 -> vR js -> vR (yR bs f js es c).1 := by
 intro f
 induction f with
 | zero => intro js es c _ _ h; exact h
 | succ f ih =>
  intro js es c hl he h;unfold yR
  split
  ·exact h
  ·refine ih _ _ _ (by rw [List.length_append, List.length_singleton]; omega) (by rw [List.length_drop]; omega) (h.snoc ⟨?_, ?_⟩)
   ·simp only [netJ, List.length_take];omega
   ·have h1 := xJ (100 + js.length);unfold netJ;dsimp only
    split
    ·omega
    ·simp [ByteArray.size]
theorem netC_sm (bs : List Int) (c : Cu) : NtSm (UW bs c).1 := by
 have h0 := Zd bs c 9;have l1 := UV bs (1 + (zn bs c 9).1).toNat [] [] (zn bs c 9).2;have l2 := UU bs ((Xl bs c).2.1.length - 1) (Xl bs c).2.1 (Xl bs c).2.2;have l3 := (netGo3_at bs (vH bs c).1.length [] (vH bs c).1 (vH bs c).2).2;change (Xl bs c).1.length = _ /\ (Xl bs c).2.1.length = _ at l1;change (vH bs c).1.length = _ at l2;change (net3 bs c).1.length <= _ at l3;simp only [List.length_nil] at l1 l3;have p1 : Xg (Xl bs c).1 := netGo1_sm bs (1 + (zn bs c 9).1).toNat [] [] (zn bs c 9).2 (by simp only [List.length_nil]; omega) (fun p hp => by cases hp);have p2 : vR (net3 bs c).1 := netGo3_sm bs (vH bs c).1.length [] (vH bs c).1 (vH bs c).2 (by simp only [List.length_nil]; omega) (by omega) (fun p hp => by cases hp);exact ⟨p1, p2, (show (Xl bs c).1.length <= 1000 by omega), (show (net3 bs c).1.length <= 1000 by omega)⟩
theorem trackC_s4 (bs : List Int) (c : Cu) : NtSm (YA bs c).1 := by
 unfold YA
 split
 ·exact stationC_sm _ _
 ·exact netC_sm _ _
theorem trackC_sm (bs : List Int) (c : Cu) : xr (YA bs c).1 := small_of (trackC_s4 bs c)

def poF (p : Int × Int) : List Value := [.int .i64 p.1, .int .i64 p.2]
abbrev PoRow (w : World) (base : Nat) (v : Value) (ps : List (Int × Int)) : Prop := zV w base 134 2 poF v ps
theorem info_Post : (Tryz.prog.info? 134).map (fun i => (i.zero, i.size, i.bytes)) = some (some (.agg #[.int .i64 0, .int .i64 0]), 2, 16) := by kernel_rfl
theorem po_one (x : Int × Int) : ∀ u ∈ poF x, u.oneCell' = true := by
 intro u hu
 simp [poF] at hu
 rcases hu with rfl | rfl <;> rfl
structure PoW (C X : Nat) (bs : List Int) (w0 : World) (a : Option Addr) (n : Nt) (ca : Nat) (c : Cu) (u : Value) (ps : List (Int × Int)) (w : World) : Prop where
 cur : Za w C bs c
 xb : ∃ b2, zg w X [.slice a n.pieces.length ca, b2]
 row : PoRow w (X + 1) u ps
 but : Yi (fun k => k = C) w0.heap.size w0 w
theorem PoW.draw (h : PoW C X bs w0 a n ca c u ps w) (ho : zP (fun k => k = C) w w') (hc : Za w' C bs c') (hX : C < X) : PoW C X bs w0 a n ca c' u ps w' := by
 obtain ⟨b2, hb⟩ := h.xb;exact ⟨hc, ⟨b2, hb.onlyS ho (show ¬ X = C by omega)⟩, h.row.only ho (fun k hk (e : k = C) => by have := (h.row.lt k hk).1; omega), qD h.but ho⟩
theorem PoW.below (h : PoW C X bs w0 a n ca c u ps w) (hb : Below w.heap.size w w') : PoW C X bs w0 a n ca c u ps w' := by
 obtain ⟨b2, hx⟩ := h.xb;exact ⟨h.cur.below hb, ⟨b2, hx.below hb⟩, h.row.below hb, but_below' h.but hb⟩
theorem PoW.add {u' : Value} {ps' : List (Int × Int)} (h : PoW C X bs w0 a n ca c u ps w) (hg : w.grownBy w' u.ownBlock) (hrow : PoRow w' (X + 1) u' ps') (hX : w0.heap.size <= X) (hCX : C < X) (hXw : X < w.heap.size) : PoW C X bs w0 a n ca c u' ps' w' := by
 obtain ⟨b2, hx⟩ := h.xb
 have hne : ∀ k, u.ownBlock = some k -> X + 1 <= k := fun k hk => (h.row.lt k hk).1
 have hb : Below (X + 1) w w' := Below.grown (Below.refl (X + 1) w) hg (by omega) hne;exact ⟨h.cur.of_below hb (by omega), ⟨b2, hx.grownE hg (fun hc => by have := hne _ hc; omega)⟩, hrow, h.but.trans (ZC hb (by omega))⟩
def RetPo (C : Nat) (bs : List Int) (c : Cu) (w : World) (e : Ending) (w' : World) : Prop :=
 ∃ u ps c', e = .returned u /\ PoRow w' w.heap.size u ps /\ ps.length <= 6 /\ Za w' C bs c' /\ c'.at_ <= c.at_ + 40 /\ Yi (fun k => k = C) w.heap.size w w'

set_option maxHeartbeats 8000000 in
theorem posts_any (C : Nat) (bs : List Int) (c : Cu) (v : Value) (n : Nt) (w : World) (hcu : Za w C bs c) (hbs : yy bs) (ha : c.at_ <= 1000000) (hv : qF C w v n) (hl : n.pieces.length <= 1000000) (hlen : qG n) :
  Calls Tryz.prog 18 #[.pointer (some ⟨C, 0, none⟩), v] w (RetPo C bs c w) := by
 have hCl := hcu.lt;have HNK := zd hv;obtain ⟨a, a2, ca, cc, rfl, _, _⟩ := hv.now;obtain ⟨i1, hj1, hy0, hy1, hy2⟩ := info_parts info_Post;have HLEN := zd hlen;have hpi := Zd bs c 6;have hpa := zL bs c 6;have HS0 : Hid (PoW C w.heap.size bs w a n ca c (.slice none 0 0) [] (w.alloc (.cells #[.slice a n.pieces.length ca, .slice a2 n.joints.length cc] 26))) := ⟨hcu.below bw0, ⟨_, zf w #[.slice a n.pieces.length ca, .slice a2 n.joints.length cc] 26⟩, zV.nil _ _ _ _ _, ZQ bw0⟩;clear hlen hcu hv;obtain ⟨m, hm⟩ : ∃ m, n.pieces.length = m := ⟨_, rfl⟩;rw [hm] at hl;have HM := zd hm;clear hm;go_enter Tryz.func18, Tryz.ntmps18;go_wp2_with fail;refine (Zp C bs c 6 _ (za HS0).cur hbs (by omega) (by omega)).mono ?_;rintro e w1 ⟨rfl, hcu1, ho1⟩;have HS1 := zd ((za HS0).draw ho1 hcu1 (by omega));clear hcu1 ho1 HS0;obtain ⟨k0, hk0⟩ : ∃ k0 : Nat, (zn bs c 6).1 = k0 := ⟨(zn bs c 6).1.toNat, by omega⟩;obtain ⟨c1, hc1⟩ : ∃ c1, (zn bs c 6).2 = c1 := ⟨_, rfl⟩;rw [hk0] at hpi ⊢;rw [hc1] at hpa HS1;clear hk0 hc1;obtain ⟨X, hX⟩ : ∃ X, w.heap.size = X := ⟨_, rfl⟩
 have hX' : w.heap.size <= X /\ X <= w.heap.size := by omega
 rw [hX] at HS1 hCl ⊢;clear hX;go_wp2_with fail
 go_loopw [5, 6] (fun y z wr => ∃ (k : Nat) (ps : List (Int × Int)) (c2 : Cu), z = .int .i64 k /\ k + ps.length <= 6 /\ c2.at_ + 4 * k <= c.at_ + 26 /\ Hid (PoW C X bs w a n ca c2 y ps wr)) (fun _ z _ => (intOf z).toNat)
 case atStart => exact ⟨k0, [], c1, rfl, by simp; omega, by omega, HS1⟩
 case round =>
  clear HS1;obtain ⟨k, ps, c2, rfl, hkb, hat, HSR⟩ := hrel;obtain ⟨b2, hXb⟩ := (za HSR).xb;rw [za HM] at hXb;have x0 := hXb.2.1 0 _ rfl;have xl := hXb.1;clear hXb
  by_cases hkp : 0 < k
  ·have hkp' : (0 : Int) < (k : Int) := by omega
   have hkw : IntKind.i64.wrap ((k : Int) - 1) = ((k - 1 : Nat) : Int) := (zj (by omega) (by omega)).trans (by omega)
   by_cases hmp : 0 < m
   ·have hmp' : (0 : Int) < (m : Int) := by omega
    have hqi := Zd bs c2 m;have hqa := zL bs c2 m;obtain ⟨p, hpp⟩ : ∃ p : Nat, (zn bs c2 m).1 = p := ⟨(zn bs c2 m).1.toNat, by omega⟩;obtain ⟨c3, hc3⟩ : ∃ c3, (zn bs c2 m).2 = c3 := ⟨_, rfl⟩;rw [hpp] at hqi;rw [hc3] at hqa;have HP := zd (And.intro hpp hc3);clear hpp hc3
    have hpm : p < m := by omega
    have hpm' : (p : Int) < (m : Int) := by omega
    go_wp2_with fail;refine (Zp C bs c2 m _ (za HSR).cur hbs (by omega) (by omega)).mono ?_;rw [(za HP).1, (za HP).2];rintro e wA ⟨rfl, hcuA, hoA⟩;have HSA := zd ((za HSR).draw hoA hcuA (by omega));clear hcuA hoA HSR x0 xl;obtain ⟨q, hq⟩ : ∃ q, lenOf n p = q := ⟨_, rfl⟩
    have hqb : -100000000 <= q /\ q <= 100000000 := by rw [← hq]; exact (za HLEN).lenOf p
    obtain ⟨pb, poff, hae, hpb, c1w⟩ := (za HNK wA (za HSA).but).pcs.len (n := n) (p := p) (by omega) (by rw [za HM]; omega);rw [hq, Int.toNat_natCast] at c1w;clear hq;obtain ⟨b2, hXb⟩ := (za HSA).xb;rw [za HM] at hXb;have x0 := hXb.2.1 0 _ rfl;have xl := hXb.1;rw [hae] at x0;have HAE := zd hae;clear hXb hae
    by_cases h2 : q < 2
    ·go_wp2_with fail;exact ⟨⟨k - 1, ps, c3, rfl, by omega, by omega, HSA⟩, by simp [intOf]; omega⟩
    ·have h2' : ¬ q < 2 := h2
     by_cases h7 : 10000000 < q
     ·go_wp2_with fail;exact ⟨⟨k - 1, ps, c3, rfl, by omega, by omega, HSA⟩, by simp [intOf]; omega⟩
     ·have hw1 : IntKind.i64.wrap (q - 1) = q - 1 := zj (by omega) (by omega);have hri := xB bs c3 (show (0 : Int) < q - 1 by omega);have hra := YY bs c3 (q - 1);obtain ⟨r, hr⟩ : ∃ r, (Zj bs c3 (q - 1)).1 = r := ⟨_, rfl⟩;obtain ⟨c4, hc4⟩ : ∃ c4, (Zj bs c3 (q - 1)).2 = c4 := ⟨_, rfl⟩;rw [hr] at hri;rw [hc4] at hra;have HR := zd (And.intro hr hc4);clear hr hc4;have hw2 : IntKind.i64.wrap (1 + r) = 1 + r := zj (by omega) (by omega);go_wp2_with fail;refine (xA C bs c3 (q - 1) _ (za HSA).cur hbs (by omega) ⟨by omega, by omega⟩).mono ?_;rw [(za HR).1, (za HR).2];rintro e wB ⟨rfl, hcuB, hoB⟩;have HSB := zd ((za HSA).draw hoB hcuB (by omega))
      have hsB : X < wB.heap.size := by have := hoB.size; omega
      clear hcuB hoB x0 xl c1w HSA
      go_wp2_with (at_builtin; refine wpList_append_own _ rfl (.tmp 41) (.tmp 54) 36 rfl (X + 1) 134 i1 (.agg #[.int .i64 0, .int .i64 0]) 2 16 Tryz.underlying36 hj1 hy0 hy1 hy2 rfl (by decide) _ _ _ rfl ((za HSB).row.below bw0) ⟨wB.heap.size, 0, none⟩ 1 1 (poF (p, 1 + r)) rfl rfl ?c1 (po_one _) ?c2 ?c3 ?c4 ?_)
      case c1 => (first | exact fun _ _ h => h | exact yd (zp _ _ _ (by first | rfl | simp)))
      case c2 => unfold maxLen; omega
      case c3 => omega
      case c4 => (first | omega | (simp; omega))
      intro u' w9 hown9 hgrow9 _;have hrow9 : PoRow w9 (X + 1) u' (ps ++ [((p : Int), 1 + r)]) := zV.snoc (f := poF) hown9;have HS9 := zd (((za HSB).below (bw0 : Below _ _ (wB.alloc (.cells #[.int .i64 p, .int .i64 (1 + r)] 134)))).add hgrow9 hrow9 (by omega) (by omega) (by simp; omega));clear hown9 hgrow9 hrow9;go_wp2_with fail;exact ⟨⟨k - 1, _, c4, rfl, by rw [List.length_append, List.length_singleton]; omega, by omega, HS9⟩, by simp [intOf]; omega⟩
   ·have hmp' : ¬ (0 : Int) < (m : Int) := by omega
    go_wp2_with fail;go_ret;exact ⟨_, ps, c2, rfl, (za HSR).row.mono (by omega), by omega, (za HSR).cur, by omega, (za HSR).but⟩
  ·have hkp' : ¬ (0 : Int) < (k : Int) := by omega
   go_wp2_with fail;go_ret;exact ⟨_, ps, c2, rfl, (za HSR).row.mono (by omega), by omega, (za HSR).cur, by omega, (za HSR).but⟩
end Go.Proofs.YthdioeofdofleaaGreatDoor
