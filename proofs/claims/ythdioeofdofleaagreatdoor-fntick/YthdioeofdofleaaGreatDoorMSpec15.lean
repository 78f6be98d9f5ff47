import Derived.Test.YthdioeofdofleaaGreatDoorMKt17
import Derived.Test.YthdioeofdofleaaGreatDoorMKw1
import Derived.Test.YthdioeofdofleaaGreatDoorMFk1
import Derived.Test.YthdioeofdofleaaGreatDoorMIr
import Derived.Test.YthdioeofdofleaaGreatDoorMReadBy
import Derived.Test.YthdioeofdofleaaGreatDoorMDr15
import Derived.Test.YthdioeofdofleaaGreatDoorTk10
import Derived.Test.YthdioeofdofleaaGreatDoorSpec23
import Derived.Test.YthdioeofdofleaaGreatDoorMSh2
set_option linter.unusedSimpArgs false
namespace Go.Proofs.YthdioeofdofleaaGreatDoor
open Go.RowKit
variable {L base : Nat} {w w' : World} {a : Option Addr} {ts : List Tr} {n : Nt} {zs vs : List Int}
def MeetP (n : Nt) (a b : Tr) : Prop := zJ n a /\ zD n b /\ YR (zi n a) (zi n b)

theorem someTouch_b (a b : Option Addr) (ca cb : Nat) (ps qs : List Pt) (w : World) {L' : Nat} (hp : Yb L w a ps) (hq : Yb L' w b qs) (hl : ps.length <= 1048576) (hl' : qs.length <= 1048576) :
  Calls Tryz.prog 38 #[.slice a ps.length ca, .slice b qs.length cb] w fun e w' => ∃ sb : Bool, e = .returned (.bool sb) /\ (sb = true ↔ YR ps qs) /\ Below w.heap.size w w' :=
 (someTouch_any a b ca cb ps qs w hp hq hl hl').mono fun e w' ⟨hs, hb⟩ => by
  rcases hs with ⟨rfl, h⟩ | ⟨rfl, h⟩
  ·exact ⟨true, rfl, by simp [h], hb⟩
  ·exact ⟨false, rfl, by simp [h], hb⟩

set_option maxRecDepth 100000 in
set_option maxHeartbeats 4000000 in
theorem implMeet_any (v : Value) (n : Nt) (t u : Tr) (ba ua : Option Addr) (bc uc : Nat) (w : World) (hv : zE L w v n) (hst : yw 0 w ba t.back) (hsu : yw 0 w ua u.back) (hcap : t.back.length <= bc) (hcap' : u.back.length <= uc) (hbl : t.back.length <= 1048576) (hbl' : u.back.length <= 1048576)
  (hl : n.pieces.length <= 1048576) (hl' : n.joints.length <= 1048576) (hle : ∀ i (h : i < n.joints.length), n.joints[i].name.size <= maxLen) (hnm : ∀ i (h : i < n.pieces.length), n.pieces[i].name.size <= maxLen) :
  Calls Tryz.prog 10 #[v, .agg #[.int .i64 t.front.piece, .int .i64 t.front.at_, .int .i64 t.front.way, .int .i64 t.long, .slice ba t.back.length bc], .agg #[.int .i64 u.front.piece, .int .i64 u.front.at_, .int .i64 u.front.way, .int .i64 u.long, .slice ua u.back.length uc]] w fun e w' => yG (MeetP n t u) e /\ Below w.heap.size w w' := by
 have hvv := hv;obtain ⟨a, c, ca, cc, rfl, hp, hj⟩ := hv
 have hzs : Tryz.zeroCells92.size = 412 := by rw [ZH, yZ]
 have HZS := zd hzs;clear hzs;go_enter Tryz.func10, Tryz.ntmps10;go_wp2_with fail;refine (bodyOn_any _ n t ba bc _ (L := L) ?hA ?hB hcap hbl hl hl' hle hnm).mono ?_
 case hA => exact hvv.below bw0
 case hB => exact hst.below bw0
 rintro e w1 ⟨⟨hR, k0, k1, k2, htk, ⟨o0, o1, o2⟩, rfl⟩ | ⟨hR, rfl⟩, hb1⟩
 ·have hbw1 : Below w.heap.size w w1 := below_then bw0 hb1;have hU1 : zg w1 (w.heap.size + 1 + 1) [.int .i64 u.front.piece, .int .i64 u.front.at_, .int .i64 u.front.way, .int .i64 u.long, .slice ua u.back.length uc] := (zp _ _ _ (by simp)).below hb1;have hst5 := Yc w1 _ (za HZS) _ (zw k0 k1 k2 t.front t.long (zW n t) t.back) (ZU _ _ _ _ o0 o1 o2);have hlB := zw k0 k1 k2 t.front t.long (zW n t) t.back;have hA : Below w1.heap.size w1 (w1.alloc (.cells (Zf k0 k1 k2 t.front t.long (zW n t) t.back).toArray 92)) := bw0;have hown := vY w1 k0 k1 k2 t.front t.long (zW n t) t.back 92;have htk' := htk;obtain ⟨ka, kca, ksh, kcsh, kst, kcst, hkv, _⟩ := htk'
  simp at hkv
  obtain ⟨rfl, rfl, rfl⟩ := hkv;have hG := Zu hR.1
  have d3 : (w1.alloc (.cells (Zf (.slice ka n.pieces.length kca) (.slice ksh n.joints.length kcsh) (.slice kst n.pieces.length kcst) t.front t.long (zW n t) t.back).toArray 92)).cell? ⟨w1.heap.size, 3, none⟩ = some (.slice ka n.pieces.length kca) := by simpa [zC] using (hown.2 3 (by omega)).1
  have d4 : (w1.alloc (.cells (Zf (.slice ka n.pieces.length kca) (.slice ksh n.joints.length kcsh) (.slice kst n.pieces.length kcst) t.front t.long (zW n t) t.back).toArray 92)).cell? ⟨w1.heap.size, 4, none⟩ = some (.slice ksh n.joints.length kcsh) := by simpa [zC] using (hown.2 4 (by omega)).1
  have d5 : (w1.alloc (.cells (Zf (.slice ka n.pieces.length kca) (.slice ksh n.joints.length kcsh) (.slice kst n.pieces.length kcst) t.front t.long (zW n t) t.back).toArray 92)).cell? ⟨w1.heap.size, 5, none⟩ = some (.slice kst n.pieces.length kcst) := by simpa [zC] using (hown.2 5 (by omega)).1
  have hU2 := hU1.below hA;have u0 := hU2.2.1 0 _ rfl;have u1 := hU2.2.1 1 _ rfl;have u2 := hU2.2.1 2 _ rfl;have u3 := hU2.2.1 3 _ rfl;have u4 := hU2.2.1 4 _ rfl;have hgb := gb_of hown (by have := hR.2.2.2.1; omega);have HR := zd hR;have HGB := zd hgb;have HTK := zd (htk.below hA);have HSU := zd (hsu.below (below_then hbw1 hA));have hbwA := below_then hbw1 hA;clear hR hown htk hgb;unfold xN;go_wp2_with fail;refine (VD n u _ _ _ ua uc _ (za HTK) hG (za HSU) hcap' hbl').mono ?_;rintro e w2 ⟨⟨hF, rfl⟩ | ⟨hF, rfl⟩, hb2⟩
  ·have hbw2 := below_then hbwA hb2;have hst6 := Yc w2 _ (za HZS) _ (zw (.slice ka n.pieces.length kca) (.slice ksh n.joints.length kcsh) (.slice kst n.pieces.length kcst) u.front u.long (zW n u) u.back) (ZU _ _ _ _ o0 o1 o2);have hlB2 := zw (.slice ka n.pieces.length kca) (.slice ksh n.joints.length kcsh) (.slice kst n.pieces.length kcst) u.front u.long (zW n u) u.back;have hA2 : Below w2.heap.size w2 (w2.alloc (.cells (Zf (.slice ka n.pieces.length kca) (.slice ksh n.joints.length kcsh) (.slice kst n.pieces.length kcst) u.front u.long (zW n u) u.back).toArray 92)) := bw0;have hown2 := vY w2 (.slice ka n.pieces.length kca) (.slice ksh n.joints.length kcsh) (.slice kst n.pieces.length kcst) u.front u.long (zW n u) u.back 92;have hgb2 := gb_of hown2 (by have := hF.2.2.1; omega);have hgb1 := ((za HGB).below hb2).below hA2;have htk2 := ((za HTK).below hb2).below hA2;have HG2 := zd hgb2;have HG1 := zd hgb1;have HT2 := zd htk2;have HF := zd hF;have hbwA2 := below_then hbw2 hA2;clear hgb2 hgb1 htk2 hown2 hF d3 d4 d5 u0 u1 u2 u3 u4 HGB HTK HSU hst5;unfold xN;go_wp2_with fail;refine (uA w1.heap.size n ka ksh kst kca kcsh kcst t.front t.long (zW n t) t.back _ (za HG1) (za HT2) hG (za HR).2.1 (yM (za HR).2.2.2.2) (za HR).2.2.2.1 (XN hG (za HR).2)).mono ?_;rintro e w3 ⟨pa, pcap, rfl, hrow, hb3⟩;have hpa := ya hrow;have HPA := zd hpa;clear hpa hrow;go_wp2_with fail;refine (uA w2.heap.size n ka ksh kst kca kcsh kcst u.front u.long (zW n u) u.back _ ((za HG2).below hb3) ((za HT2).below hb3) hG (za HF).1 (yM (za HF).2.2.2) (za HF).2.2.1 (XN hG (za HF))).mono ?_;rintro e w4 ⟨qa, qcap, rfl, hrow, hb4⟩;have hqa := ya hrow;have HQA := zd hqa;clear hqa hrow;go_wp2_with fail;refine (someTouch_b _ _ _ _ _ _ _ ((za HPA).below hb4) (za HQA) (by have := xG n t.front (zW n t) t.back; have := (za HR).2.2.2.1; omega) (by have := xG n u.front (zW n u) u.back; have := (za HF).2.2.1; omega)).mono ?_;rintro e w5 ⟨sb, rfl, hsb, hb5⟩
   have HSB : Hid (sb = true ↔ MeetP n t u) := by
    rw [← Yf hG (za HR).2, ← Yf hG (za HF)] at hsb;exact hsb.trans ⟨fun g => ⟨za HR, za HF, g⟩, fun g => g.2.2⟩
   clear hsb;go_wp2;go_ret;exact ⟨yo (za HSB), below_then (below_then (below_then hbwA2 hb3) hb4) hb5⟩
  ·have hbw2 := below_then hbwA hb2;have hst6 := Yc w2 _ (za HZS) _ (zw (.slice none 0 0) (.slice none 0 0) (.slice none 0 0) ⟨0, 0, 0⟩ 0 0 []) (ZU _ _ _ _ rfl rfl rfl);have hlB2 := zw (.slice none 0 0) (.slice none 0 0) (.slice none 0 0) ⟨0, 0, 0⟩ 0 0 [];have HF := zd hF;clear hF d3 d4 d5 u0 u1 u2 u3 u4 hst5;unfold yb xN;go_wp2;go_ret;exact ⟨zk fun h => za HF h.2.1, below_then hbw2 bw0⟩
 ·have hbw1 : Below w.heap.size w w1 := below_then bw0 hb1;have hst5 := Yc w1 _ (za HZS) _ (zw (.slice none 0 0) (.slice none 0 0) (.slice none 0 0) ⟨0, 0, 0⟩ 0 0 []) (ZU _ _ _ _ rfl rfl rfl);have hlB := zw (.slice none 0 0) (.slice none 0 0) (.slice none 0 0) ⟨0, 0, 0⟩ 0 0 [];have HR := zd hR;clear hR;unfold yb xN;go_wp2;go_ret;exact ⟨zk fun h => za HR h.1, below_then hbw1 bw0⟩

structure Bk (ms : List Int) (ma : Option Addr) (w : World) : Prop where
 by_ : YX w.heap.size w ma ms
 gl : 0 < w.heap.size /\ w.cell? ⟨0, 0, none⟩ = some (.iface 245 (.agg #[.pointer (some ⟨4, 82, none⟩)]))
 tab : TabK w
theorem Bk.below {ms : List Int} {ma : Option Addr} (h : Bk ms ma w) (hb : Below w.heap.size w w') : Bk ms ma w' :=
 ⟨fun i hi => by obtain ⟨b, o, e, h1, h2, h3⟩ := h.by_ i hi; exact ⟨b, o, e, ⟨Nat.lt_of_lt_of_le h1.2 hb.size, Nat.lt_of_lt_of_le h1.2 hb.size⟩, (hb.cell h1.2).trans h2, h3⟩, ⟨Nat.lt_of_lt_of_le h.gl.1 hb.size, (hb.cell h.gl.1).trans h.gl.2⟩, h.tab.below hb⟩
def SkQ (w : World) (a : Option Addr) (zs : List (Int × Int)) : Prop := ∀ i (h : i < zs.length), ∃ b, a = some ⟨b, 0, none⟩ /\ b < w.heap.size /\ w.cell? ⟨b, i * 2, none⟩ = some (.int .i64 zs[i].1) /\ w.cell? ⟨b, i * 2 + 1, none⟩ = some (.int .i64 zs[i].2)
structure TkQ (L : Nat) (b : TkS) (a c f s : Option Addr) (w : World) : Prop where
 t : XW L w a b.ts
 c : zF L w c b.codes
 f : zF L w f b.fars
 s : SkQ w s b.strikes
theorem TkQ.below {b : TkS} {c f s : Option Addr} (h : TkQ L b a c f s w) (hb : Below w.heap.size w w') : TkQ L b a c f s w' :=
 ⟨h.t.below hb, zF.below h.c hb, zF.below h.f hb, fun i hi => by obtain ⟨g, e, h1, h2, h3⟩ := h.s i hi; exact ⟨g, e, Nat.lt_of_lt_of_le h1 hb.size, (hb.cell h1).trans h2, (hb.cell h1).trans h3⟩⟩
theorem tkQ_of {b : TkS} {vt vc vf vk : Value} (h1 : Xd w base vt b.ts) (h2 : Xh w base vc b.codes) (h3 : Xh w base vf b.fars) (h4 : un w base vk b.strikes) :
  ∃ a c f s m1 m2 m3 m4, vt = .slice a b.ts.length m1 /\ vc = .slice c b.codes.length m2 /\ vf = .slice f b.fars.length m3 /\ vk = .slice s b.strikes.length m4 /\ TkQ base b a c f s w := by
 obtain ⟨a, m1, e1, q1⟩ := vn h1;obtain ⟨c, m2, e2, _, q2⟩ := yN h2;obtain ⟨f, m3, e3, _, q3⟩ := yN h3;obtain ⟨s, m4, e4, _, q4⟩ := zV.shape (f := skF) (sz := 2) (fun _ => rfl) h4;refine ⟨a, c, f, s, m1, m2, m3, m4, e1, e2, e3, e4, q1, q2, q3, fun i hi => ?_⟩;obtain ⟨g, e, hl, hc⟩ := q4 i hi;exact ⟨g, e, hl.2, hc 0 (by omega), hc 1 (by omega)⟩

theorem tnRow_add {base' : Nat} {u u' : Value} {t : Tr} {cap : Nat} {qs : List (Tr × Value)} (hqs : qs.map Prod.fst = ts) (hv : XH w base u qs) (hqe : ∀ q ∈ qs, ∃ a cap, q.2 = .slice a q.1.back.length cap /\ Zk w base q.2 q.1.back)
  (hst : Zk w base' (.slice a t.back.length cap) t.back) (hg : w.grownBy w' u.ownBlock) (hown : XH w' base u' (qs ++ [(t, .slice a t.back.length cap)])) (hbb : base' <= base) : Xd w' base' u' (ts ++ [t]) := by
 refine ⟨qs ++ [(t, .slice a t.back.length cap)], by simp [hqs], hown.mono hbb, fun q hq => ?_⟩
 rcases List.mem_append.1 hq with hq | hq
 ·obtain ⟨a', cap', he, hr⟩ := hqe q hq;exact ⟨a', cap', he, (hr.kept hg (fun k hk hc => zV.apart hr hv (by decide) k hk hc)).mono hbb⟩
 ·simp at hq
  subst hq;exact ⟨a, cap, rfl, hst.kept hg (fun k hk hc => zV.apart hst hv (by decide) k hk hc)⟩
theorem shown_some (n : Nt) (ts : List Tr) : ∃ s, Vf n ts s := by
 by_cases h : ye n ts
 ·exact ⟨_, Or.inl ⟨h, rfl⟩⟩
 ·exact ⟨_, Or.inr ⟨h, rfl⟩⟩

theorem tick_in (hg : yv n zs ts vs) {j : Nat} {b : TkS} (h : Ya n zs ts vs j b) : (∀ x ∈ b.strikes, ∃ i k : Nat, x = ((i : Int), (k : Int)) /\ i < ts.length /\ k < ts.length /\ i ≠ k) /\ b.strikes.length <= 20 * j /\ j <= ts.length := by
 induction h with
 | zero => exact ⟨(fun x hx => by cases hx), by simp, by simp⟩
 | @succ j a b h1 hj hs ih =>
  obtain ⟨m, code, joint, hrun, rfl⟩ := hs;have hok := h1.ok hg;have h20 := hg.1.2.1;obtain ⟨ih1, ih2, ih3⟩ := ih
  have hl : (yi n j m.over (a.ts.set j ⟨m.s, (ZS a.ts j).long, m.xs⟩)).length <= 20 := by
   unfold yi xk;rw [List.length_map];exact Nat.le_trans (List.length_filter_le _ _) (Nat.le_trans (List.length_filter_le _ _) (by rw [List.length_range, List.length_set, hok.len]; exact h20))
  refine ⟨fun x hx => ?_, by simp only [List.length_append]; omega, by omega⟩
  rcases List.mem_append.1 hx with hx | hx
  ·exact ih1 x hx
  ·unfold yi xk at hx;obtain ⟨k, hk, rfl⟩ := List.mem_map.1 hx;have h3 := (List.mem_filter.1 hk).2;have h2 := (List.mem_filter.1 (List.mem_filter.1 hk).1).1;rw [List.mem_range, List.length_set, hok.len] at h2;exact ⟨j, k, rfl, hj, h2, fun e => by subst e; simp at h3⟩
structure TkFacts (n : Nt) (ts : List Tr) (b : TkS) : Prop where
 len : b.ts.length <= 20
 codes : b.codes.length = b.ts.length
 fars : b.fars.length = b.ts.length
 few : b.strikes.length <= 400
 back : ∀ i (h : i < b.ts.length), b.ts[i].back.length <= 1000
 in_ : ∀ x ∈ b.strikes, ∃ i k : Nat, x = ((i : Int), (k : Int)) /\ i < ts.length /\ k < ts.length /\ i ≠ k
 lt : b.ts.length <= ts.length
 met : ∀ i k, k < i -> ∀ (h : i < b.ts.length) (g : k < b.ts.length), MeetP n b.ts[i] b.ts[k] -> ((i : Int), (k : Int)) ∈ b.strikes
theorem trAt_get {i : Nat} (h : i < ts.length) : ZS ts i = ts[i] := by
 unfold ZS;rw [List.getD_eq_getElem?_getD, List.getElem?_eq_getElem h];rfl
theorem VF.facts {ok : Bool} {b : TkS} (h : VF n zs ts vs ok b) : TkFacts n ts b := by
 rcases h with ⟨h1, rfl, h3⟩ | ⟨_, rfl, rfl⟩
 ·have hok := h3.ok h1;have h20 := h1.1.2.1;obtain ⟨q1, q2, _⟩ := tick_in h1 h3;refine ⟨by rw [hok.len]; exact h20, by rw [hok.codes, hok.len], by rw [hok.fars, hok.len], by omega, fun i hi => ?_, q1, by rw [hok.len]; exact Nat.le_refl _, fun i k hki hi hk hm => ?_⟩
  ·have := (hok.fits _ (List.getElem_mem hi)).2.2.1;omega
  ·refine tick_struck h1 h3 i k hki (by rw [← hok.len]; exact hi) ?_;rw [trAt_get hi, trAt_get hk];exact hits_of hm.2.2
 ·exact ⟨by simp, rfl, rfl, by simp, (fun i hi => by simp at hi), (fun x hx => by cases hx), by simp, fun i k _ hi => by simp at hi⟩
def vv (l : List (Int × Int)) (j : Nat) : Bool := l.any fun x => x.1 == (j : Int) || x.2 == (j : Int)
theorem strIn_snoc (l : List (Int × Int)) (i k j : Nat) : (if j = k then Value.bool true else if j = i then Value.bool true else Value.bool (vv l j)) = .bool (vv (l ++ [((i : Int), (k : Int))]) j) := by
 unfold vv;rw [List.any_append]
 by_cases h1 : j = k
 ·subst h1
  simp
 ·by_cases h2 : j = i
  ·subst h2
   simp
  ·have e1 : ((i : Int) == (j : Int)) = false := by rw [beq_eq_false_iff_ne]; omega
   have e2 : ((k : Int) == (j : Int)) = false := by rw [beq_eq_false_iff_ne]; omega
   simp [h1, h2, e1, e2]
theorem strIn_of {l : List (Int × Int)} {i k : Nat} (h : ((i : Int), (k : Int)) ∈ l) : vv l i = true := by
 unfold vv;rw [List.any_eq_true];exact ⟨_, h, by simp⟩
theorem info_Bool : (Tryz.prog.info? 4).map (fun i => (i.zero, i.size, i.bytes)) = some (some (.bool false), 1, 1) := by kernel_rfl
end Go.Proofs.YthdioeofdofleaaGreatDoor
