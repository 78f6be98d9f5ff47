import Derived.Test.YthdioeofdofleaaGreatDoorMKt12
import Derived.Test.YthdioeofdofleaaGreatDoorMKw1
import Derived.Test.YthdioeofdofleaaGreatDoorMPlain2
import Derived.Test.YthdioeofdofleaaGreatDoorMKt2
import Derived.Test.YthdioeofdofleaaGreatDoorMPlain
import Derived.Maps.GroupsBeside
set_option maxRecDepth 100000
namespace Go.Proofs.YthdioeofdofleaaGreatDoor
open Go.RowKit Go.Maps Go.WideElems
variable {L base b N : Nat} {w w' : World} {a : Option Addr} {es : List Sx} {v : Value} {ps : List Pt} {n : Nt} {t : Tr} {p : Int}
def xS (x : Sx) : List Value := [.int .i64 x.step.piece, .int .i64 x.step.way, .int .i64 x.low, .int .i64 x.high]
theorem VH (x : Sx) : (xS x).length = 4 := rfl
abbrev Yz (w : World) (base : Nat) (v : Value) (xs : List Sx) : Prop := zV w base 151 4 xS v xs
theorem ue : (Tryz.prog.info? 151).map (fun i => (i.zero, i.size, i.bytes)) = some (some (.agg #[.int .i64 0, .int .i64 0, .int .i64 0, .int .i64 0]), 4, 32) := by kernel_rfl

def Vq (L : Nat) (w : World) (a : Option Addr) (xs : List Sx) : Prop :=
 ∀ i (h : i < xs.length), ∃ b off, a = some ⟨b, off, none⟩ /\ (L <= b /\ b < w.heap.size) /\ w.cell? ⟨b, off + i * 4, none⟩ = some (.int .i64 xs[i].step.piece) /\ w.cell? ⟨b, off + i * 4 + 1, none⟩ = some (.int .i64 xs[i].step.way)
  /\ w.cell? ⟨b, off + i * 4 + 2, none⟩ = some (.int .i64 xs[i].low) /\ w.cell? ⟨b, off + i * 4 + 3, none⟩ = some (.int .i64 xs[i].high)
theorem Vq.keeps (h : Vq L w a es) (hk : yH L w w') : Vq L w' a es := by
 intro i hi;obtain ⟨b, off, ha, hlt, c0, c1, c2, c3⟩ := h i hi;exact ⟨b, off, ha, ⟨hlt.1, Nat.lt_of_lt_of_le hlt.2 hk.1⟩, by rw [hk.cell hlt]; exact c0, by rw [hk.cell hlt]; exact c1, by rw [hk.cell hlt]; exact c2, by rw [hk.cell hlt]; exact c3⟩
theorem Vq.below (h : Vq L w a es) (hb : Below w.heap.size w w') : Vq L w' a es := h.keeps (zT L hb)
theorem vp {xs : List Sx} (h : Yz w base v xs) : ∃ a cap, v = .slice a xs.length cap /\ xs.length <= cap /\ Vq base w a xs := by
 obtain ⟨a, cap, hv, hc, hx⟩ := h.shape VH;refine ⟨a, cap, hv, hc, fun i hi => ?_⟩;obtain ⟨g, ha, hg, hj⟩ := hx i hi;have e0 := hj 0 (by omega);have e1 := hj 1 (by omega);have e2 := hj 2 (by omega);have e3 := hj 3 (by omega);simp only [xS] at e0 e1 e2 e3;exact ⟨g, 0, ha, hg, by simpa using e0, by simpa using e1, by simpa using e2, by simpa using e3⟩

def Us (n : Nt) (x : Sx) : Prop := zy n x.step /\ (0 <= x.low /\ x.low <= 10000000) /\ (0 <= x.high /\ x.high <= 10000000)

set_option maxHeartbeats 2000000 in
theorem kpart_any (kv : Value) (n : Nt) (x : Sx) (w : World) (hk : ZD L w kv n) (hG : zr n) (hx : Us n x) :
  Calls Tryz.prog 64 #[kv, .agg #[.int .i64 x.step.piece, .int .i64 x.step.way, .int .i64 x.low, .int .i64 x.high]] w fun e w' => e = .returned (.agg #[.int .i64 (Zs n x.step x.low x.high).piece, .int .i64 (Zs n x.step x.low x.high).fr, .int .i64 (Zs n x.step x.low x.high).to]) /\ Below w.heap.size w w' := by
 obtain ⟨a, ca, sh, csh, st, cst, rfl, hp, hsh, hsd⟩ := hk;obtain ⟨⟨p, y⟩, lo, hi⟩ := x;obtain ⟨⟨⟨h1, h2⟩, hy⟩, hlo, hhi⟩ := hx;dsimp only at h1 h2 hy hlo hhi ⊢;have hlen := hG.len h1 h2;obtain ⟨pb, poff, rfl, hpb, c1⟩ := hp.len h1 h2;obtain ⟨pn, rfl⟩ := Int.eq_ofNat_of_zero_le h1;simp only [Int.toNat_natCast] at c1
 have hpb1 : pb < w.heap.size + 1 := by omega
 have hpb2 : pb < w.heap.size + 1 + 1 := by omega
 have w1 := zj (x := lenOf n pn - hi) (by omega) (by omega);have w2 := zj (x := lenOf n pn - lo) (by omega) (by omega)
 rcases hy with rfl | rfl
 ·have HP : Hid (Zs n ⟨pn, 1⟩ lo hi = ⟨pn, lo, hi⟩) := by unfold Hid; simp [Zs]
  go_enter Tryz.func64, Tryz.ntmps64;go_wp2;exact bodyPost_ret (v := .agg #[.int .i64 pn, .int .i64 lo, .int .i64 hi]) (by simp [results, Tryz.results64, go_sem]) rfl ⟨by rw [za HP], bw0⟩
 ·have HP : Hid (Zs n ⟨pn, -1⟩ lo hi = ⟨pn, lenOf n pn - hi, lenOf n pn - lo⟩) := by unfold Hid; simp [Zs]
  go_enter Tryz.func64, Tryz.ntmps64;go_wp2;exact bodyPost_ret (v := .agg #[.int .i64 pn, .int .i64 (lenOf n pn - hi), .int .i64 (lenOf n pn - lo)]) (by simp [results, Tryz.results64, go_sem]) rfl ⟨by rw [za HP], bw0⟩

set_option maxHeartbeats 4000000 in
theorem ub (kv : Value) (n : Nt) (a : Option Addr) (cap : Nat) (xs : List Sx) (w : World) {L' : Nat} (hk : ZD L w kv n) (hxs : Vq L' w a xs) (hG : zr n) (hok : ∀ x ∈ xs, Us n x) (hl : xs.length <= 100000) :
  Calls Tryz.prog 29 #[kv, .slice a xs.length cap] w fun e w' => ∃ u, e = .returned u /\ ZM w' w.heap.size u (Zw n xs) /\ Below w.heap.size w w' := by
 have hkk := hk;obtain ⟨ka, kca, sh, csh, st, cst, rfl, hp, hsh, hsd⟩ := hk;obtain ⟨i0, hi, hz0, hz1, hz2⟩ := info_parts Xz;have HOK := zd hok;clear hok;go_enter Tryz.func29, Tryz.ntmps29;go_wp2_with fail
 go_loopw [5, 10] (fun u z wr => ∃ k : Nat, k <= xs.length /\ z = .int .i64 k /\ Hid (ZM wr (w.heap.size + 1) u (Zw n (xs.take k))) /\ zg wr w.heap.size [.slice ka n.pieces.length kca, .slice sh n.joints.length csh, .slice st n.pieces.length cst] /\ Below w.heap.size w wr) (fun _ z _ => xs.length - (intOf z).toNat)
 case atStart => exact ⟨0, Nat.zero_le _, rfl, zd (zV.nil _ _ _ _ _), zf _ _ _, bw0⟩
 case round =>
  obtain ⟨k, hk', rfl, HROW, hBk, hb⟩ := hrel;have nk := hBk.1;have hszr := hb.size
  by_cases hlt : k < xs.length
  ·obtain ⟨sb, soff, rfl, hsb, s0, s1, s2, s3⟩ := hxs.below hb k hlt;have hx := za HOK xs[k] (List.getElem_mem hlt);have htake : xs.take (k + 1) = xs.take k ++ [xs[k]] := List.take_succ_eq_append_getElem hlt
   generalize hxk : xs[k] = x at *
   obtain ⟨⟨xp, xy⟩, lo, hi'⟩ := x;have HX := zd hx;have HT := zd htake;have hsb2 := hsb.2;dsimp only at s0 s1 s2 s3;clear hx htake hxk;have hpl := Vu n (xs.take k);rw [List.length_take] at hpl
   by_cases hlow : lo < hi'
   ·have k0 := hBk.2.1 0 _ rfl;have k1 := hBk.2.1 1 _ rfl;have k2 := hBk.2.1 2 _ rfl;have hbA : Below wr.heap.size wr (wr.alloc (.cells #[.int .i64 xp, .int .i64 xy, .int .i64 lo, .int .i64 hi'] 151)) := bw0;go_wp2_with fail;refine (kpart_any _ n ⟨⟨xp, xy⟩, lo, hi'⟩ _ (hkk.below (below_then hb hbA)) hG (za HX)).mono ?_;rintro e w2 ⟨rfl, hb2⟩;have hb2' := below_then hbA hb2;have hrow2 := (za HROW).below hb2';have hbw2 := below_then hb hb2';have hBk2 := hBk.below hb2';have hsz2 := hb2'.size
    have HP : Hid (Zw n (xs.take (k + 1)) = Zw n (xs.take k) ++ [Zs n ⟨xp, xy⟩ lo hi']) := by
     unfold Hid;rw [za HT, Xa, if_pos hlow]
    dsimp only;obtain ⟨pt, hpt⟩ : ∃ pt, Zs n ⟨xp, xy⟩ lo hi' = pt := ⟨_, rfl⟩;rw [hpt] at HP ⊢;obtain ⟨qp, qf, qt⟩ := pt;clear hpt k0 k1 k2;dsimp only
    go_wp2_with (at_builtin; refine wpList_append_own _ rfl (.tmp 19) (.tmp 23) 93 rfl (w.heap.size + 1) 103 i0 (.agg #[.int .i64 0, .int .i64 0, .int .i64 0]) 3 24 Tryz.underlying93 hi hz0 hz1 hz2 rfl (by decide) _ _ _ rfl (hrow2.alloc _) ⟨w2.heap.size, 0, none⟩ 1 1 (xT ⟨qp, qf, qt⟩) rfl rfl ?c1 ?c2 ?c3 ?c4 ?c5 ?_)
    case c1 =>
     intro j u hj
     match j, hj with
     | 0, hj => simp [xT] at hj; subst hj; simp [Addr.add]
     | 1, hj => simp [xT] at hj; subst hj; simp [Addr.add]
     | 2, hj => simp [xT] at hj; subst hj; simp [Addr.add]
    case c2 => intro u hu; simp [xT] at hu; rcases hu with rfl | rfl | rfl <;> rfl
    case c3 => unfold maxLen; omega
    case c4 => omega
    case c5 => simp; omega
    intro v' w3 hown' hgrow _;have hrow3 : ZM w3 (w.heap.size + 1) v' (Zw n (xs.take k) ++ [⟨qp, qf, qt⟩]) := zV.snoc hown';have hb3 : Below w.heap.size w w3 := ZL hrow2 hbw2 hgrow (by omega) (by omega);have hBk3 := zG hrow2 hgrow (by omega) hBk2;have HROW3 := zd hrow3;clear hrow3 hown' hgrow hrow2;go_wp2;refine ⟨⟨k + 1, by omega, by go_num, ?_, hBk3, hb3⟩, by simp [intOf]; omega⟩;rw [za HP];exact HROW3
   ·have HP : Hid (Zw n (xs.take (k + 1)) = Zw n (xs.take k)) := by
     unfold Hid;rw [za HT, Xa, if_neg hlow, List.append_nil]
    go_wp2;refine ⟨⟨k + 1, by omega, by go_num, ?_, hBk.alloc _, (ZW hb)⟩, by simp [intOf]; omega⟩;rw [za HP];exact zd ((za HROW).below bw0)
  ·have hkl : k = xs.length := by omega
   have HK : Hid (xs.take k = xs) := by unfold Hid; rw [hkl]; simp
   go_wp2;go_ret;refine ⟨_, rfl, ?_, hb⟩;have := za HROW;rw [za HK] at this;exact this.mono (by omega)

theorem stretchL_at (n : Nt) (sp : Int) (s : Sp) (xs : List St) (k : Nat) (h : k <= xs.length) :
  (zR n sp (zm n s) ⟨s.piece, s.way⟩ xs).take (k + 1) = (zR n sp (zm n s) ⟨s.piece, s.way⟩ xs).take k ++ [⟨Zr s xs k, if k = xs.length then sp else 0, if k = 0 then zm n s else lenOf n (Zr s xs k).piece⟩] := by
 have hlt : k < (zR n sp (zm n s) ⟨s.piece, s.way⟩ xs).length := by rw [YB]; omega
 rw [List.take_succ_eq_append_getElem hlt, stretchL_get]
 have : (⟨s.piece, s.way⟩ :: xs : List St).getD k ⟨0, 0⟩ = Zr s xs k := by
  unfold Zr
  cases k with
  | zero => simp
  | succ k => simp
 rw [this]

set_option maxHeartbeats 8000000 in
theorem stretches_any (B : Nat) (n : Nt) (ka ksh kst : Option Addr) (kca kcsh kcst : Nat) (s : Sp) (long sp : Int) (xs : List St) (w : World) (h : GB w B (.slice ka n.pieces.length kca) (.slice ksh n.joints.length kcsh) (.slice kst n.pieces.length kcst) s long sp xs)
  (hk : ZD 0 w (.agg #[.slice ka n.pieces.length kca, .slice ksh n.joints.length kcsh, .slice kst n.pieces.length kcst]) n) (hG : zr n) (hs : Zt n s) (hxs : ∀ x ∈ xs, zy n x) (hx200 : xs.length <= 200) :
  Calls Tryz.prog 80 #[.pointer (some ⟨B, 0, none⟩)] w fun e w' => ∃ u, e = .returned u /\ Yz w' w.heap.size u (zR n sp (zm n s) ⟨s.piece, s.way⟩ xs) /\ Below w.heap.size w w' := by
 have hB := h.lt;obtain ⟨_, _, _, _, _, _, _, _, c411⟩ := h.cells;obtain ⟨i0, hi, hz0, hz1, hz2⟩ := info_parts ue
 have hp : Yh 0 w ka n.pieces := by
  obtain ⟨a, ca, sh, csh, st, cst, hv, hp, _⟩ := hk
  simp at hv
  rw [hv.1.1];exact hp
 have hlen := hG.len hs.1.1 hs.1.2;have H := zd h;have HXS := zd hxs;have HS := zd hs;clear h hxs hs;go_enter Tryz.func80, Tryz.ntmps80;go_wp2_with fail
 go_loopw [3, 5] (fun u z wr => ∃ k : Nat, k <= xs.length + 1 /\ z = .int .i64 k /\ Hid (Yz wr w.heap.size u ((zR n sp (zm n s) ⟨s.piece, s.way⟩ xs).take k)) /\ Below w.heap.size w wr) (fun _ z _ => xs.length + 1 - (intOf z).toNat)
 case atStart => exact ⟨0, Nat.zero_le _, rfl, zd (zV.nil _ _ _ _ _), Below.refl _ _⟩
 case round =>
  obtain ⟨k, hk', rfl, HROW, hb⟩ := hrel;clear c411
  by_cases hlt : k <= xs.length
  ·have hszr := hb.size
   have hle : (k : Int) <= (xs.length : Int) := by omega
   have hT := stretchL_at n sp s xs k hlt;have hok := ux (n := n) (s := s) (xs := xs) ⟨(za HS).1, (za HS).2.1⟩ (za HXS) hlt;have HT := zd hT;have hgb := (za H).below hb;have HGB := zd hgb
   have hlenT : ((zR n sp (zm n s) ⟨s.piece, s.way⟩ xs).take k).length = k := by rw [List.length_take, YB]; omega
   have HLT := zd hlenT;obtain ⟨pre, hpre⟩ : ∃ pre, (zR n sp (zm n s) ⟨s.piece, s.way⟩ xs).take k = pre := ⟨_, rfl⟩;rw [hpre] at HT HLT HROW;clear hpre;clear hT hgb hlenT;go_wp2_with fail;refine (Ui B k _ _ _ s long sp xs _ (za HGB) hlt).mono ?_;rintro e w1 ⟨rfl, hb1⟩;obtain ⟨sk, hsk⟩ : ∃ sk, Zr s xs k = sk := ⟨_, rfl⟩;rw [hsk] at HT hok ⊢;have HSK := zd hsk;clear hsk;obtain ⟨tp, ty⟩ := sk;have HOKS := zd hok;obtain ⟨⟨h1, h2⟩, _⟩ := hok;dsimp only at h1 h2 ⊢;have hlens := hG.len h1 h2;obtain ⟨tn, rfl⟩ := Int.eq_ofNat_of_zero_le h1;obtain ⟨pb, poff, rfl, hpb, c1w⟩ := hp.len h1 h2;have hbw1 := below_then hb hb1;have hsz1 := hb1.size;have c1 := (hbw1.cell hpb).trans c1w;simp only [Int.toNat_natCast] at c1;have hgb1 := (za HGB).below hb1;have HGB1 := zd hgb1;obtain ⟨g0, g1, g2, g3, g4, g5, g6, g7, g411⟩ := hgb1.cells;clear hgb1
   have hB1 : B < w1.heap.size := by omega
   have hB2 : B < w1.heap.size + 1 := by omega
   have nB1 : ¬ B = w1.heap.size + 1 := by omega
   have nB2 : ¬ w1.heap.size + 1 = B := by omega
   have hpb1 : pb < w1.heap.size := by omega
   have hpb2 : pb < w1.heap.size + 1 := by omega
   have hrow1 := (za HROW).below hb1;have HROW1 := zd hrow1;clear hrow1 HROW;have hkk := hk.below hbw1;have HKK := zd hkk;clear hkk
   by_cases hk0 : k = 0
   ·by_cases hl0 : k = xs.length
    ·skip
     have q1 : ((k : Int) == 0) = true := by simp; omega
     have q2 : ((k : Int) == (xs.length : Int)) = true := by simp; omega
     rw [if_pos hl0, if_pos hk0] at HT;clear hk0 hl0;go_wp2_with fail
     go_region
     go_wp2_with fail
     go_region_held3 (fun w' => w'.cell? ⟨B, 0, none⟩ = some (.int .i64 s.piece) /\ w'.cell? ⟨B, 1, none⟩ = some (.int .i64 s.at_) /\ w'.cell? ⟨B, 2, none⟩ = some (.int .i64 s.way) /\ w'.cell? ⟨B, 3, none⟩ = some (.slice (some ⟨pb, poff, none⟩) n.pieces.length kca) /\ w'.cell? ⟨B, 4, none⟩ = some (.slice ksh n.joints.length kcsh) /\ w'.cell? ⟨B, 5, none⟩ = some (.slice kst n.pieces.length kcst)) (((try dsimp only); (repeat' apply And.intro)) <;> (go_keep; done))
      (first
       | (go_at_call 108; refine (Xc _ n s _ ((za HKK).below bw0) (za HS) hlen.2).mono ?_; rintro e w2 ⟨rfl, hb2⟩; obtain ⟨hc2, hf2⟩ := yT hb2; have sz2 := hb2.size; (try simp at sz2); have m0 := hc2 (w1.heap.size + 1) 0 (by simp); have m1 := hc2 (w1.heap.size + 1) 1 (by simp); have m2 := hc2 (w1.heap.size + 1) 2 (by simp); have m3 := hc2 (w1.heap.size + 1) 3 (by simp); have m4 := hf2 (w1.heap.size + 1) 3 (by simp); have m5 := hf2 (w1.heap.size + 1) 2 (by simp); have lt2 : w1.heap.size + 1 < w2.heap.size := (by omega); have qq0 := hc2 (B) (0) (by first | (simp; done) | (simp; omega) | omega); have qq1 := hc2 (B) (1) (by first | (simp; done) | (simp; omega) | omega); have qq2 := hc2 (B) (2) (by first | (simp; done) | (simp; omega) | omega); have qq3 := hc2 (B) (3) (by first | (simp; done) | (simp; omega) | omega); have qq4 := hc2 (B) (4) (by first | (simp; done) | (simp; omega) | omega); have qq5 := hc2 (B) (5) (by first | (simp; done) | (simp; omega) | omega); have qs0 := hc2 (B) (7) (by first | (simp; done) | (simp; omega) | omega)))
     have hbw12 : Below w1.heap.size w1 w2 := below_then bw0 hb2;clear qq0 qq1 qq2 qq3 qq4 qq5
     go_wp2_with (at_builtin; refine wpList_append_own _ rfl (.tmp 53) (.tmp 55) 78 rfl w.heap.size 151 i0 (.agg #[.int .i64 0, .int .i64 0, .int .i64 0, .int .i64 0]) 4 32 Tryz.underlying78 hi hz0 hz1 hz2 rfl (by decide) _ _ _ rfl ((za HROW1).below (ZW hbw12)) _ 1 1 (xS ⟨⟨tn, ty⟩, sp, (zm n s)⟩) rfl rfl ?c1a ?c2a ?c3a ?c4a ?c5a ?_)
     case c1a =>
      intro j u hj
      match j, hj with
      | 0, hj => simp [xS] at hj; subst hj; simp only [Addr.add]; exact (zp _ _ _ (by first | (simp; done) | (simp [World.setCell]; done))).2.1 0 _ rfl
      | 1, hj => simp [xS] at hj; subst hj; simp only [Addr.add]; exact (zp _ _ _ (by first | (simp; done) | (simp [World.setCell]; done))).2.1 1 _ rfl
      | 2, hj => simp [xS] at hj; subst hj; simp only [Addr.add]; exact (zp _ _ _ (by first | (simp; done) | (simp [World.setCell]; done))).2.1 2 _ rfl
      | 3, hj => simp [xS] at hj; subst hj; simp only [Addr.add]; exact (zp _ _ _ (by first | (simp; done) | (simp [World.setCell]; done))).2.1 3 _ rfl
     case c2a => intro u hu; simp [xS] at hu; rcases hu with rfl | rfl | rfl | rfl <;> rfl
     case c3a => rw [za HLT]; unfold maxLen; omega
     case c4a => rw [za HLT]; omega
     case c5a => simp [World.setCell]; omega
     intro v' w3 hown' hgrow _;have hrow3 : Yz w3 w.heap.size v' _ := zV.snoc (f := xS) hown';have hb3 : Below w.heap.size w w3 := Below.grown (below_then hbw1 (ZW hbw12)) hgrow (by simp [World.setCell]; omega) (fun j hj => ((za HROW1).lt j hj).1);have HROW3 := zd hrow3;clear hrow3 hown' hgrow;go_wp2;refine ⟨⟨k + 1, by omega, by go_num, ?_, hb3⟩, by simp [intOf]; omega⟩;rw [za HT];exact HROW3
    ·skip
     have q1 : ((k : Int) == 0) = true := by simp; omega
     have q2 : ((k : Int) == (xs.length : Int)) = false := by simp; omega
     rw [if_neg hl0, if_pos hk0] at HT;clear hk0 hl0;go_wp2_with fail
     go_region
     go_wp2_with fail
     go_region_held3 (fun w' => w'.cell? ⟨B, 0, none⟩ = some (.int .i64 s.piece) /\ w'.cell? ⟨B, 1, none⟩ = some (.int .i64 s.at_) /\ w'.cell? ⟨B, 2, none⟩ = some (.int .i64 s.way) /\ w'.cell? ⟨B, 3, none⟩ = some (.slice (some ⟨pb, poff, none⟩) n.pieces.length kca) /\ w'.cell? ⟨B, 4, none⟩ = some (.slice ksh n.joints.length kcsh) /\ w'.cell? ⟨B, 5, none⟩ = some (.slice kst n.pieces.length kcst)) (((try dsimp only); (repeat' apply And.intro)) <;> (go_keep; done))
      (first
       | (go_at_call 108; refine (Xc _ n s _ ((za HKK).below bw0) (za HS) hlen.2).mono ?_; rintro e w2 ⟨rfl, hb2⟩; obtain ⟨hc2, hf2⟩ := yT hb2; have sz2 := hb2.size; (try simp at sz2); have m0 := hc2 (w1.heap.size + 1) 0 (by simp); have m1 := hc2 (w1.heap.size + 1) 1 (by simp); have m2 := hc2 (w1.heap.size + 1) 2 (by simp); have m3 := hc2 (w1.heap.size + 1) 3 (by simp); have m4 := hf2 (w1.heap.size + 1) 3 (by simp); have m5 := hf2 (w1.heap.size + 1) 2 (by simp); have lt2 : w1.heap.size + 1 < w2.heap.size := (by omega); have qq0 := hc2 (B) (0) (by first | (simp; done) | (simp; omega) | omega); have qq1 := hc2 (B) (1) (by first | (simp; done) | (simp; omega) | omega); have qq2 := hc2 (B) (2) (by first | (simp; done) | (simp; omega) | omega); have qq3 := hc2 (B) (3) (by first | (simp; done) | (simp; omega) | omega); have qq4 := hc2 (B) (4) (by first | (simp; done) | (simp; omega) | omega); have qq5 := hc2 (B) (5) (by first | (simp; done) | (simp; omega) | omega); have qs0 := hc2 (B) (7) (by first | (simp; done) | (simp; omega) | omega)))
     have hbw12 : Below w1.heap.size w1 w2 := below_then bw0 hb2;clear qq0 qq1 qq2 qq3 qq4 qq5
     go_wp2_with (at_builtin; refine wpList_append_own _ rfl (.tmp 53) (.tmp 55) 78 rfl w.heap.size 151 i0 (.agg #[.int .i64 0, .int .i64 0, .int .i64 0, .int .i64 0]) 4 32 Tryz.underlying78 hi hz0 hz1 hz2 rfl (by decide) _ _ _ rfl ((za HROW1).below (ZW hbw12)) _ 1 1 (xS ⟨⟨tn, ty⟩, 0, (zm n s)⟩) rfl rfl ?c1b ?c2b ?c3b ?c4b ?c5b ?_)
     case c1b =>
      intro j u hj
      match j, hj with
      | 0, hj => simp [xS] at hj; subst hj; simp only [Addr.add]; exact (zp _ _ _ (by first | (simp; done) | (simp [World.setCell]; done))).2.1 0 _ rfl
      | 1, hj => simp [xS] at hj; subst hj; simp only [Addr.add]; exact (zp _ _ _ (by first | (simp; done) | (simp [World.setCell]; done))).2.1 1 _ rfl
      | 2, hj => simp [xS] at hj; subst hj; simp only [Addr.add]; exact (zp _ _ _ (by first | (simp; done) | (simp [World.setCell]; done))).2.1 2 _ rfl
      | 3, hj => simp [xS] at hj; subst hj; simp only [Addr.add]; exact (zp _ _ _ (by first | (simp; done) | (simp [World.setCell]; done))).2.1 3 _ rfl
     case c2b => intro u hu; simp [xS] at hu; rcases hu with rfl | rfl | rfl | rfl <;> rfl
     case c3b => rw [za HLT]; unfold maxLen; omega
     case c4b => rw [za HLT]; omega
     case c5b => simp [World.setCell]; omega
     intro v' w3 hown' hgrow _;have hrow3 : Yz w3 w.heap.size v' _ := zV.snoc (f := xS) hown';have hb3 : Below w.heap.size w w3 := Below.grown (below_then hbw1 (ZW hbw12)) hgrow (by simp [World.setCell]; omega) (fun j hj => ((za HROW1).lt j hj).1);have HROW3 := zd hrow3;clear hrow3 hown' hgrow;go_wp2;refine ⟨⟨k + 1, by omega, by go_num, ?_, hb3⟩, by simp [intOf]; omega⟩;rw [za HT];exact HROW3
   ·by_cases hl0 : k = xs.length
    ·skip
     have q1 : ((k : Int) == 0) = false := by simp; omega
     have q2 : ((k : Int) == (xs.length : Int)) = true := by simp; omega
     rw [if_pos hl0, if_neg hk0] at HT;clear hk0 hl0;go_wp2_with fail
     go_region
     go_wp2_with (at_builtin; refine wpList_append_own _ rfl (.tmp 53) (.tmp 55) 78 rfl w.heap.size 151 i0 (.agg #[.int .i64 0, .int .i64 0, .int .i64 0, .int .i64 0]) 4 32 Tryz.underlying78 hi hz0 hz1 hz2 rfl (by decide) _ _ _ rfl ((za HROW1).below bw0) _ 1 1 (xS ⟨⟨tn, ty⟩, sp, (lenOf n tn)⟩) rfl rfl ?c1c ?c2c ?c3c ?c4c ?c5c ?_)
     case c1c =>
      intro j u hj
      match j, hj with
      | 0, hj => simp [xS] at hj; subst hj; simp only [Addr.add]; exact (zp _ _ _ (by simp)).2.1 0 _ rfl
      | 1, hj => simp [xS] at hj; subst hj; simp only [Addr.add]; exact (zp _ _ _ (by simp)).2.1 1 _ rfl
      | 2, hj => simp [xS] at hj; subst hj; simp only [Addr.add]; exact (zp _ _ _ (by simp)).2.1 2 _ rfl
      | 3, hj => simp [xS] at hj; subst hj; simp only [Addr.add]; exact (zp _ _ _ (by simp)).2.1 3 _ rfl
     case c2c => intro u hu; simp [xS] at hu; rcases hu with rfl | rfl | rfl | rfl <;> rfl
     case c3c => rw [za HLT]; unfold maxLen; omega
     case c4c => rw [za HLT]; omega
     case c5c => simp; omega
     intro v' w3 hown' hgrow _;have hrow3 : Yz w3 w.heap.size v' _ := zV.snoc (f := xS) hown';have hb3 : Below w.heap.size w w3 := Below.grown (below_then hbw1 bw0) hgrow (by simp; omega) (fun j hj => ((za HROW1).lt j hj).1);have HROW3 := zd hrow3;clear hrow3 hown' hgrow;go_wp2;refine ⟨⟨k + 1, by omega, by go_num, ?_, hb3⟩, by simp [intOf]; omega⟩;rw [za HT];exact HROW3
    ·skip
     have q1 : ((k : Int) == 0) = false := by simp; omega
     have q2 : ((k : Int) == (xs.length : Int)) = false := by simp; omega
     rw [if_neg hl0, if_neg hk0] at HT;clear hk0 hl0;go_wp2_with fail
     go_region
     go_wp2_with (at_builtin; refine wpList_append_own _ rfl (.tmp 53) (.tmp 55) 78 rfl w.heap.size 151 i0 (.agg #[.int .i64 0, .int .i64 0, .int .i64 0, .int .i64 0]) 4 32 Tryz.underlying78 hi hz0 hz1 hz2 rfl (by decide) _ _ _ rfl ((za HROW1).below bw0) _ 1 1 (xS ⟨⟨tn, ty⟩, 0, (lenOf n tn)⟩) rfl rfl ?c1d ?c2d ?c3d ?c4d ?c5d ?_)
     case c1d =>
      intro j u hj
      match j, hj with
      | 0, hj => simp [xS] at hj; subst hj; simp only [Addr.add]; exact (zp _ _ _ (by simp)).2.1 0 _ rfl
      | 1, hj => simp [xS] at hj; subst hj; simp only [Addr.add]; exact (zp _ _ _ (by simp)).2.1 1 _ rfl
      | 2, hj => simp [xS] at hj; subst hj; simp only [Addr.add]; exact (zp _ _ _ (by simp)).2.1 2 _ rfl
      | 3, hj => simp [xS] at hj; subst hj; simp only [Addr.add]; exact (zp _ _ _ (by simp)).2.1 3 _ rfl
     case c2d => intro u hu; simp [xS] at hu; rcases hu with rfl | rfl | rfl | rfl <;> rfl
     case c3d => rw [za HLT]; unfold maxLen; omega
     case c4d => rw [za HLT]; omega
     case c5d => simp; omega
     intro v' w3 hown' hgrow _;have hrow3 : Yz w3 w.heap.size v' _ := zV.snoc (f := xS) hown';have hb3 : Below w.heap.size w w3 := Below.grown (below_then hbw1 bw0) hgrow (by simp; omega) (fun j hj => ((za HROW1).lt j hj).1);have HROW3 := zd hrow3;clear hrow3 hown' hgrow;go_wp2;refine ⟨⟨k + 1, by omega, by go_num, ?_, hb3⟩, by simp [intOf]; omega⟩;rw [za HT];exact HROW3
  ·have HK : Hid ((zR n sp (zm n s) ⟨s.piece, s.way⟩ xs).take k = zR n sp (zm n s) ⟨s.piece, s.way⟩ xs) := by
    unfold Hid;rw [List.take_of_length_le (by rw [YB]; omega)]
   have hgt : (xs.length : Int) < (k : Int) := by omega
   go_wp2;go_ret;refine ⟨_, rfl, ?_, hb⟩;have := za HROW;rw [za HK] at this;exact this

theorem ZB (h : ZM w base v ps) : ∃ a cap, v = .slice a ps.length cap /\ ps.length <= cap /\ Yb base w a ps := by
 obtain ⟨a, cap, hv, hc, hx⟩ := h.shape ptF_len;refine ⟨a, cap, hv, hc, fun i hi => ?_⟩;obtain ⟨g, ha, hg, hj⟩ := hx i hi;have e0 := hj 0 (by omega);have e1 := hj 1 (by omega);have e2 := hj 2 (by omega);simp only [xT] at e0 e1 e2;exact ⟨g, 0, ha, hg, by simpa using e0, by simpa using e1, by simpa using e2⟩

theorem uW (hG : zr n) {sp : Int} (hsp : 0 <= sp /\ sp <= 10000000) : ∀ {bk : List St} {along : Int} {at_ : St}, (0 <= along /\ along <= 10000000) -> zy n at_ -> (∀ x ∈ bk, zy n x) -> ∀ x ∈ zR n sp along at_ bk, Us n x := by
 intro bk
 induction bk with
 | nil =>
  intro along at_ ha hs _ x hx;simp only [zR, List.mem_singleton] at hx;subst hx;exact ⟨hs, hsp, ha⟩
 | cons s r ih =>
  intro along at_ ha hs hb x hx;simp only [zR, List.mem_cons] at hx
  rcases hx with rfl | hx
  ·exact ⟨hs, by simp, ha⟩
  ·have hsok := hb s (by simp);have := hG.len hsok.1.1 hsok.1.2;exact ih (by omega) hsok (fun y hy => hb y (by simp [hy])) x hx

theorem ZY (hG : zr n) {s : Sp} (hs : Zt n s) : 0 <= zm n s /\ zm n s <= 10000000 := by
 have hlen := hG.len hs.1.1 hs.1.2;have h3 := hs.2.2;unfold zm Zl
 split <;> omega

theorem stretches_b (B : Nat) (n : Nt) (ka ksh kst : Option Addr) (kca kcsh kcst : Nat) (s : Sp) (long sp : Int) (xs : List St) (w : World) (h : GB w B (.slice ka n.pieces.length kca) (.slice ksh n.joints.length kcsh) (.slice kst n.pieces.length kcst) s long sp xs)
  (hk : ZD 0 w (.agg #[.slice ka n.pieces.length kca, .slice ksh n.joints.length kcsh, .slice kst n.pieces.length kcst]) n) (hG : zr n) (hs : Zt n s) (hxs : ∀ x ∈ xs, zy n x) (hx200 : xs.length <= 200) :
  Calls Tryz.prog 80 #[.pointer (some ⟨B, 0, none⟩)] w fun e w' => ∃ a cap, e = .returned (.slice a (zR n sp (zm n s) ⟨s.piece, s.way⟩ xs).length cap) /\ Vq w.heap.size w' a (zR n sp (zm n s) ⟨s.piece, s.way⟩ xs) /\ Below w.heap.size w w' :=
 (stretches_any B n ka ksh kst kca kcsh kcst s long sp xs w h hk hG hs hxs hx200).mono fun e w' ⟨u, he, hr, hb⟩ => by
  obtain ⟨a, cap, hv, _, hx⟩ := vp hr;exact ⟨a, cap, by rw [he, hv], hx, hb⟩

def Vv (n : Nt) (s : Sp) (sp : Int) (xs : List St) : List Pt := Zw n (zR n sp (zm n s) ⟨s.piece, s.way⟩ xs)
theorem xG (n : Nt) (s : Sp) (sp : Int) (xs : List St) : (Vv n s sp xs).length <= xs.length + 1 := by
 have := Vu n (zR n sp (zm n s) ⟨s.piece, s.way⟩ xs);rw [YB] at this;exact this

theorem Yf (hG : zr n) (hF : zD n t) : zi n t = Vv n t.front (zW n t) t.back := by
 have hb := ZY hG hF.1;have hl := hF.2.1;have := body_same hG (long := t.long) (along := zm n t.front) hF.2.2.2 (by omega) hb.1;unfold zi Vv zW;rw [show t.long - (zm n t.front - zm n t.front) = t.long by omega] at this;rw [this]
 congr 1
 congr 1
 omega

set_option maxHeartbeats 4000000 in
theorem uA (B : Nat) (n : Nt) (ka ksh kst : Option Addr) (kca kcsh kcst : Nat) (s : Sp) (long sp : Int) (xs : List St) (w : World) (h : GB w B (.slice ka n.pieces.length kca) (.slice ksh n.joints.length kcsh) (.slice kst n.pieces.length kcst) s long sp xs)
  (hk : ZD 0 w (.agg #[.slice ka n.pieces.length kca, .slice ksh n.joints.length kcsh, .slice kst n.pieces.length kcst]) n) (hG : zr n) (hs : Zt n s) (hxs : ∀ x ∈ xs, zy n x) (hx200 : xs.length <= 200) (hsp : 0 <= sp /\ sp <= 10000000) :
  Calls Tryz.prog 39 #[.pointer (some ⟨B, 0, none⟩)] w fun e w' => ∃ a cap, e = .returned (.slice a (Vv n s sp xs).length cap) /\ ZM w' w.heap.size (.slice a (Vv n s sp xs).length cap) (Vv n s sp xs) /\ Below w.heap.size w w' := by
 have hB := h.lt;obtain ⟨_, _, _, c3, c4, c5, _⟩ := h.cells;have H := zd h;have HXS := zd hxs;have HS := zd hs;have HK := zd hk;clear h hxs hs hk;go_enter Tryz.func39, Tryz.ntmps39;go_wp2_with fail
 go_region_held3 (fun w' => w'.cell? ⟨B, 3, none⟩ = some (.slice ka n.pieces.length kca) /\ w'.cell? ⟨B, 4, none⟩ = some (.slice ksh n.joints.length kcsh) /\ w'.cell? ⟨B, 5, none⟩ = some (.slice kst n.pieces.length kcst)) (((try dsimp only); (repeat' apply And.intro)) <;> (go_keep; done))
  (first
   | (go_at_call 80; refine (stretches_b B n ka ksh kst kca kcsh kcst s long sp xs _ ((za H).below bw0) ((za HK).below bw0) hG (za HS) (za HXS) hx200).mono ?_; rintro e w1 ⟨sa, scap, rfl, hsx, hb1⟩; obtain ⟨hc1, hf1⟩ := yT hb1; have qq0 := hc1 (B) (3) (by first | (simp; done) | (simp; omega) | omega); have qq1 := hc1 (B) (4) (by first | (simp; done) | (simp; omega) | omega); have qq2 := hc1 (B) (5) (by first | (simp; done) | (simp; omega) | omega))
   | (go_at_call 29; refine (ub _ n sa scap _ _ ((za HK).below (below_then bw0 hb1)) hsx hG (uW hG hsp (ZY hG (za HS)) ⟨(za HS).1, (za HS).2.1⟩ (za HXS)) (by rw [YB]; omega)).mono ?_; rintro e w2 ⟨u, rfl, hrow, hb2⟩; obtain ⟨pa, pcap, hpv, hpc, hpx⟩ := ZB hrow; rw [hpv]; have HROW := zd hrow; clear hrow; obtain ⟨hc2, hf2⟩ := yT hb2; have rr0 := hc2 (B) (3) (by first | (have := hb1.size; omega) | (have := hb1.size; simp at this ⊢; omega) | (simp; omega)); have rr1 := hc2 (B) (4) (by first | (have := hb1.size; omega) | (have := hb1.size; simp at this ⊢; omega) | (simp; omega)); have rr2 := hc2 (B) (5) (by first | (have := hb1.size; omega) | (have := hb1.size; simp at this ⊢; omega) | (simp; omega))))
 have hbw1 : Below w.heap.size w w1 := below_then bw0 hb1;have hbw2 := below_then hbw1 hb2;go_wp2;go_ret;refine ⟨pa, pcap, rfl, ?_, hbw2⟩;have h1 := za HROW;rw [hpv] at h1;exact h1.mono (by have := hbw1.size; omega)

def PtFits (n : Nt) (p : Pt) : Prop := (0 <= p.piece /\ p.piece < n.pieces.length) /\ 0 <= p.fr /\ p.fr <= p.to /\ p.to <= lenOf n p.piece
def PtsFit (n : Nt) (ps : List Pt) : Prop := (∀ p ∈ ps, PtFits n p) /\ ps.length <= 1000

theorem ZG (hG : zr n) (hF : zD n t) : (zi n t).length <= 201 := by
 rw [Yf hG hF];have := xG n t.front (zW n t) t.back;have := hF.2.2.1;omega
theorem ya {m cap : Nat} (h : ZM w base (.slice a m cap) ps) : Yb 0 w a ps := by
 obtain ⟨a', cap', hv, _, hx⟩ := ZB (h.mono (Nat.zero_le _))
 simp at hv
 rw [hv.1];exact hx

theorem Ua {s : St} (hs : zy n s) {a b : Int} (h0 : 0 <= a) (h1 : a <= b) (h2 : b <= lenOf n s.piece) : PtFits n (Zs n s a b) := by
 unfold Zs
 split
 ·exact ⟨hs.1, by dsimp only; omega, by dsimp only; omega, by dsimp only; omega⟩
 ·exact ⟨hs.1, by dsimp only; omega, by dsimp only; omega, by dsimp only; omega⟩
theorem bodyFrom_ok (hG : zr n) {long : Int} : ∀ {bk : List St} {hv along : Int} {at_ : St}, ZE n long hv at_ bk -> 0 < long - (hv - along) -> (0 <= along /\ along <= lenOf n at_.piece) -> zy n at_ →
  (∀ p ∈ ZJ n (long - (hv - along)) along at_ bk, PtFits n p) /\ ZJ n (long - (hv - along)) along at_ bk ≠ [] := by
 intro bk
 induction bk with
 | nil =>
  intro hv along at_ hB hl ha hs;simp only [ZE] at hB
  have hm : (if along > long - (hv - along) then long - (hv - along) else along) = long - (hv - along) := by split <;> omega
  simp only [ZJ, hm, if_pos hl];refine ⟨fun p hp => ?_, by simp⟩
  simp at hp
  subst hp;exact Ua hs (by omega) (by omega) ha.2
 | cons s r ih =>
  intro hv along at_ hB hl ha hs;obtain ⟨hss, hlt, _, hB'⟩ := hB;have hls := hG.len hss.1.1 hss.1.2
  have hm : (if along > long - (hv - along) then long - (hv - along) else along) = along := by split <;> omega
  have hne : ¬ long - (hv - along) - along = 0 := by omega
  obtain ⟨g1, g2⟩ := ih (hv := hv + lenOf n s.piece) (along := lenOf n s.piece) (at_ := s) hB' (by omega) ⟨by omega, Int.le_refl _⟩ hss;rw [show long - (hv + lenOf n s.piece - lenOf n s.piece) = long - (hv - along) - along by omega] at g1 g2;simp only [ZJ, hm, if_neg hne];refine ⟨fun p hp => ?_, fun h => g2 (List.append_eq_nil_iff.1 h).2⟩
  rcases List.mem_append.1 hp with hp | hp
  ·split at hp
   ·simp at hp
    subst hp;exact Ua hs (by omega) (by omega) ha.2
   ·cases hp
  ·exact g1 p hp
theorem XG (h : zJ n t) : PtsFit n (zi n t) /\ zi n t ≠ [] := by
 have hG := Zu h.1;have hF := h.2;have hbe := ZY hG hF.1
 have hbl : zm n t.front <= lenOf n t.front.piece := by
  have h3 := hF.1.2.2;unfold zm Zl
  split <;> omega
 obtain ⟨g1, g2⟩ := bodyFrom_ok hG (long := t.long) (hv := zm n t.front) (along := zm n t.front) (at_ := ⟨t.front.piece, t.front.way⟩) hF.2.2.2 (by have := hF.2.1; omega) ⟨hbe.1, hbl⟩ ⟨hF.1.1, hF.1.2.1⟩;rw [show t.long - (zm n t.front - zm n t.front) = t.long by omega] at g1 g2;have hlen := ZG hG hF;exact ⟨⟨g1, by omega⟩, g2⟩

def anyElem : Value -> Option (DataW Unit × List MemPlace) := fun _ => some (.nil, [])
theorem lyKey : Keyed Tryz.prog 3 := int_keyed (q := .i64) (by kernel_rfl)
theorem lyU : Tryz.prog.underlying 72 = some (.map 3 71) := by kernel_rfl
theorem lyZ (w : World) : (zeroValue 71).run Tryz.prog w = .ok (.slice none 0 0) w := by kernel_rfl
theorem lyInt : Tryz.prog.underlying 3 = some (.int .i64) := by kernel_rfl
theorem lyKeyOf (hp : (Lit.int .i64 p).wf = true) : keyOf Tryz.prog 3 (.int .i64 p) = some (.int .i64 p) := by
 first | (simp [keyOf, mapKey, hp]; done) | simp [keyOf, mapKey, lyInt, hp]

def yU (w : World) (b N : Nat) (f : Int -> Value) : Prop :=
 ∃ D : DataW Unit, w.ownsMap Tryz.prog 3 anyElem b N D /\ (∃ es clock, w.heap[b]? = some (.map es clock) /\ ∀ x ∈ es.toList, ∀ p, x.key = .int .i64 p -> x.val = f p) /\ ∀ p, Maps.has D (.int .i64 p) = false -> f p = .slice none 0 0

theorem yU.lt {f : Int -> Value} (h : yU w b N f) : b < w.heap.size := by
 obtain ⟨D, ho, _⟩ := h;exact ho.lt
theorem yU.of_block {f : Int -> Value} (h : yU w b N f) (hb : w'.heap[b]? = w.heap[b]?) : yU w' b N f := by
 obtain ⟨D, ⟨es, clock, hblk, r⟩, ⟨es2, clock2, hb2, h2⟩, h3⟩ := h;exact ⟨D, ⟨es, clock, hb.trans hblk, r⟩, ⟨es2, clock2, hb.trans hb2, h2⟩, h3⟩
theorem yU.below {f : Int -> Value} (h : yU w b N f) (hb : Below w.heap.size w w') : yU w' b N f := h.of_block (hb.block b h.lt)
theorem mapIs_made (w : World) : yU (w.alloc (.map #[] 0)) w.heap.size 0 (fun _ => .slice none 0 0) :=
 ⟨.map [], World.ownsMap_made _ _ _ _, ⟨#[], 0, (MapKept.heap_alloc w _).1, fun x hx => by simp at hx⟩, fun _ _ => rfl⟩

theorem yU.look {f : Int -> Value} (h : yU w b N f) (hp : (Lit.int .i64 p).wf = true) :
  (Instr.lookup 72 (.map (some b)) (.int .i64 p) false).run Tryz.prog w = .ok (f p) w := by
 obtain ⟨D, ⟨es, clock, hblk, F, _, rfl⟩, ⟨es2, clock2, hb2, h2⟩, h3⟩ := h
 obtain ⟨rfl, rfl⟩ : es = es2 /\ clock = clock2 := by rw [hblk] at hb2; simpa using hb2
 rcases Maps.fit_look false lyKey lyU (lyZ w) hblk F (lyKeyOf hp) with ⟨hrun, _, hat⟩ | ⟨e0, y, hm0, hk0, hrun, _, _, _⟩
 ·rw [h3 p (has_false_of_atKey hat)];exact hrun
 ·rw [← h2 e0 hm0 p hk0];exact hrun

theorem yU.store {f : Int -> Value} (h : yU w b N f) (hN : N < maxLen) (hp : (Lit.int .i64 p).wf = true) (v : Value) :
  ∃ w', (Instr.mapUpdate 72 (.map (some b)) (.int .i64 p) v).run Tryz.prog w = .ok () w' /\ yU w' b (N + 1) (fun q => if q = p then v else f q) /\ w.grownBy w' (some b) := by
 obtain ⟨D, ho, ⟨es2, clock2, hb2, h2⟩, h3⟩ := h;have hoo := ho;obtain ⟨es, clock, hblk, F, hs, rfl⟩ := hoo
 obtain ⟨rfl, rfl⟩ : es = es2 /\ clock = clock2 := by rw [hblk] at hb2; simpa using hb2
 obtain ⟨w', hrun, ho', ht⟩ := ho.store (val := v) (d := .nil) (ps := []) lyKey lyU hN (lyKeyOf hp) rfl;obtain ⟨es', clock', hb', hwho⟩ := stored_who lyKey lyU hblk F (Nat.lt_of_le_of_lt hs hN) (lyKeyOf hp) hrun;refine ⟨w', hrun, ⟨_, ho', ⟨es', clock', hb', fun x hx q hq => ?_⟩, fun q hq => ?_⟩, ht.grown⟩
 ·rcases hwho x hx with ⟨hx0, hne⟩ | ⟨hk, hv⟩
  ·have : q ≠ p := fun e => hne (by rw [hq, e])
   simp only [if_neg this];exact h2 x hx0 q hq
  ·have : q = p := by rw [hk] at hq; simpa using hq.symm
   simp only [if_pos this];exact hv
 ·by_cases e : q = p
  ·subst e;rw [Maps.has_put_same ho.isMap (show WideAt.IsKeyLit (.int .i64 q) from trivial)] at hq
   simp at hq
  ·have hne : (Lit.int .i64 q) ≠ .int .i64 p := fun h => e (by simpa using h)
   rw [Maps.has_put_other hne] at hq;simp only [if_neg e];exact h3 q hq
end Go.Proofs.YthdioeofdofleaaGreatDoor
