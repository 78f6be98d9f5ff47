import Derived.Test.YtjacbppeebnjfaaGreatMKt12
import Derived.Test.YtjacbppeebnjfaaGreatMSpec14
import Derived.Test.YtjacbppeebnjfaaGreatMPlain2
namespace Go.Proofs.YtjacbppeebnjfaaGreat
open Go.RowKit

def sxF (x : Sx) : List Value := [.int .i64 x.step.piece, .int .i64 x.step.way, .int .i64 x.low, .int .i64 x.high]
theorem sxF_len (x : Sx) : (sxF x).length = 4 := rfl
abbrev SxRow (w : World) (base : Nat) (v : Value) (xs : List Sx) : Prop := Row w base 81 4 sxF v xs
theorem info_stretch : (Tryz.prog.info? 81).map (fun i => (i.zero, i.size, i.bytes)) = some (some (.agg #[.int .i64 0, .int .i64 0, .int .i64 0, .int .i64 0]), 4, 32) := by kernel_rfl

def SxsAt (L : Nat) (w : World) (a : Option Addr) (xs : List Sx) : Prop :=
 ∀ i (h : i < xs.length), ∃ b off, a = some ⟨b, off, none⟩ ∧ (L ≤ b ∧ b < w.heap.size) ∧ w.cell? ⟨b, off + i * 4, none⟩ = some (.int .i64 xs[i].step.piece) ∧ w.cell? ⟨b, off + i * 4 + 1, none⟩ = some (.int .i64 xs[i].step.way)
  ∧ w.cell? ⟨b, off + i * 4 + 2, none⟩ = some (.int .i64 xs[i].low) ∧ w.cell? ⟨b, off + i * 4 + 3, none⟩ = some (.int .i64 xs[i].high)
theorem SxsAt.keeps {L : Nat} {w w' : World} {a : Option Addr} {es : List Sx} (h : SxsAt L w a es) (hk : Keeps L w w') : SxsAt L w' a es := by
 intro i hi
 obtain ⟨b, off, ha, hlt, c0, c1, c2, c3⟩ := h i hi
 exact ⟨b, off, ha, ⟨hlt.1, Nat.lt_of_lt_of_le hlt.2 hk.1⟩, by rw [hk.cell hlt]; exact c0, by rw [hk.cell hlt]; exact c1, by rw [hk.cell hlt]; exact c2, by rw [hk.cell hlt]; exact c3⟩
theorem SxsAt.below {L : Nat} {w w' : World} {a : Option Addr} {es : List Sx} (h : SxsAt L w a es) (hb : Below w.heap.size w w') : SxsAt L w' a es := h.keeps (keeps_below L hb)
theorem sxRow_at {w : World} {base : Nat} {v : Value} {xs : List Sx} (h : SxRow w base v xs) : ∃ a cap, v = .slice a xs.length cap ∧ xs.length ≤ cap ∧ SxsAt base w a xs := by
 obtain ⟨a, cap, hv, hc, hx⟩ := h.shape sxF_len
 refine ⟨a, cap, hv, hc, fun i hi => ?_⟩
 obtain ⟨g, ha, hg, hj⟩ := hx i hi
 have e0 := hj 0 (by omega)
 have e1 := hj 1 (by omega)
 have e2 := hj 2 (by omega)
 have e3 := hj 3 (by omega)
 simp only [sxF] at e0 e1 e2 e3
 exact ⟨g, 0, ha, hg, by simpa using e0, by simpa using e1, by simpa using e2, by simpa using e3⟩

def SxOk (n : Nt) (x : Sx) : Prop := StepOk n x.step ∧ (0 ≤ x.low ∧ x.low ≤ 10000000) ∧ (0 ≤ x.high ∧ x.high ≤ 10000000)

end Go.Proofs.YtjacbppeebnjfaaGreat

namespace Go.Proofs.YtjacbppeebnjfaaGreat
open Go.RowKit

theorem stretchL_at (n : Nt) (sp : Int) (s : Sp) (xs : List St) (k : Nat) (h : k ≤ xs.length) :
  (stretchL n sp (behind n s) ⟨s.piece, s.way⟩ xs).take (k + 1) = (stretchL n sp (behind n s) ⟨s.piece, s.way⟩ xs).take k ++ [⟨stepOf s xs k, if k = xs.length then sp else 0, if k = 0 then behind n s else lenOf n (stepOf s xs k).piece⟩] := by
 have hlt : k < (stretchL n sp (behind n s) ⟨s.piece, s.way⟩ xs).length := by rw [stretchL_len]; omega
 rw [List.take_succ_eq_append_getElem hlt, stretchL_get]
 have : (⟨s.piece, s.way⟩ :: xs : List St).getD k ⟨0, 0⟩ = stepOf s xs k := by
  unfold stepOf
  cases k with
  | zero => simp
  | succ k => simp
 rw [this]

set_option maxRecDepth 100000 in
set_option maxHeartbeats 8000000 in
theorem stretches_any (B : Nat) (n : Nt) (ka ksh kst : Option Addr) (kca kcsh kcst : Nat) (s : Sp) (long sp : Int) (xs : List St) (w : World) (h : GB w B (.slice ka n.pieces.length kca) (.slice ksh n.joints.length kcsh) (.slice kst n.pieces.length kcst) s long sp xs)
  (hk : TrkAt 0 w (.agg #[.slice ka n.pieces.length kca, .slice ksh n.joints.length kcsh, .slice kst n.pieces.length kcst]) n) (hG : NetGood n) (hs : SpotOk n s) (hxs : ∀ x ∈ xs, StepOk n x) (hx200 : xs.length ≤ 200) :
  Calls Tryz.prog 20 #[.pointer (some ⟨B, 0, none⟩)] w fun e w' => ∃ u, e = .returned u ∧ SxRow w' w.heap.size u (stretchL n sp (behind n s) ⟨s.piece, s.way⟩ xs) ∧ Below w.heap.size w w' := by
 have hB := h.lt
 obtain ⟨_, _, _, _, _, _, _, _, c411⟩ := h.cells
 obtain ⟨i0, hi, hz0, hz1, hz2⟩ := info_parts info_stretch
 have hp : PcsAt 0 w ka n.pieces := by
  obtain ⟨a, ca, sh, csh, st, cst, hv, hp, _⟩ := hk
  simp at hv
  rw [hv.1.1]
  exact hp
 have hlen := hG.len hs.1.1 hs.1.2
 have H := hide h
 have HXS := hide hxs
 have HS := hide hs
 clear h hxs hs
 go_enter Tryz.func20, Tryz.ntmps20
 go_wp2_with fail
 go_loopw [3, 5] (fun u z wr => ∃ k : Nat, k ≤ xs.length + 1 ∧ z = .int .i64 k ∧ Hid (SxRow wr w.heap.size u ((stretchL n sp (behind n s) ⟨s.piece, s.way⟩ xs).take k)) ∧ Below w.heap.size w wr) (fun _ z _ => xs.length + 1 - (intOf z).toNat)
 case atStart => exact ⟨0, Nat.zero_le _, rfl, hide (Row.nil _ _ _ _ _), Below.refl _ _⟩
 case round =>
  obtain ⟨k, hk', rfl, HROW, hb⟩ := hrel
  clear c411
  by_cases hlt : k ≤ xs.length
  ·have hszr := hb.size
   have hle : (k : Int) ≤ (xs.length : Int) := by omega
   have hT := stretchL_at n sp s xs k hlt
   have hok := stepOf_ok (n := n) (s := s) (xs := xs) ⟨(unhide HS).1, (unhide HS).2.1⟩ (unhide HXS) hlt
   have HT := hide hT
   have hgb := (unhide H).below hb
   have HGB := hide hgb
   have hlenT : ((stretchL n sp (behind n s) ⟨s.piece, s.way⟩ xs).take k).length = k := by rw [List.length_take, stretchL_len]; omega
   have HLT := hide hlenT
   obtain ⟨pre, hpre⟩ : ∃ pre, (stretchL n sp (behind n s) ⟨s.piece, s.way⟩ xs).take k = pre := ⟨_, rfl⟩
   rw [hpre] at HT HLT HROW
   clear hpre
   clear hT hgb hlenT
   go_wp2_with fail
   refine (gStepAt_any B k _ _ _ s long sp xs _ (unhide HGB) hlt).mono ?_
   rintro e w1 ⟨rfl, hb1⟩
   obtain ⟨sk, hsk⟩ : ∃ sk, stepOf s xs k = sk := ⟨_, rfl⟩
   rw [hsk] at HT hok ⊢
   have HSK := hide hsk
   clear hsk
   obtain ⟨tp, ty⟩ := sk
   have HOKS := hide hok
   obtain ⟨⟨h1, h2⟩, _⟩ := hok
   dsimp only at h1 h2 ⊢
   have hlens := hG.len h1 h2
   obtain ⟨tn, rfl⟩ := Int.eq_ofNat_of_zero_le h1
   obtain ⟨pb, poff, rfl, hpb, c1w⟩ := hp.len h1 h2
   have hbw1 := below_then hb hb1
   have hsz1 := hb1.size
   have c1 := (hbw1.cell hpb).trans c1w
   simp only [Int.toNat_natCast] at c1
   have hgb1 := (unhide HGB).below hb1
   have HGB1 := hide hgb1
   obtain ⟨g0, g1, g2, g3, g4, g5, g6, g7, g411⟩ := hgb1.cells
   clear hgb1
   have hB1 : B < w1.heap.size := by omega
   have hB2 : B < w1.heap.size + 1 := by omega
   have nB1 : ¬ B = w1.heap.size + 1 := by omega
   have nB2 : ¬ w1.heap.size + 1 = B := by omega
   have hpb1 : pb < w1.heap.size := by omega
   have hpb2 : pb < w1.heap.size + 1 := by omega
   have hrow1 := (unhide HROW).below hb1
   have HROW1 := hide hrow1
   clear hrow1 HROW
   have hkk := hk.below hbw1
   have HKK := hide hkk
   clear hkk
   by_cases hk0 : k = 0
   ·by_cases hl0 : k = xs.length
    ·skip
     have q1 : ((k : Int) == 0) = true := by simp; omega
     have q2 : ((k : Int) == (xs.length : Int)) = true := by simp; omega
     rw [if_pos hl0, if_pos hk0] at HT
     clear hk0 hl0
     go_wp2_with fail
     go_region
     go_wp2_with fail
     go_region_held3 (fun w' => w'.cell? ⟨B, 0, none⟩ = some (.int .i64 s.piece) ∧ w'.cell? ⟨B, 1, none⟩ = some (.int .i64 s.at_) ∧ w'.cell? ⟨B, 2, none⟩ = some (.int .i64 s.way) ∧ w'.cell? ⟨B, 3, none⟩ = some (.slice (some ⟨pb, poff, none⟩) n.pieces.length kca) ∧ w'.cell? ⟨B, 4, none⟩ = some (.slice ksh n.joints.length kcsh) ∧ w'.cell? ⟨B, 5, none⟩ = some (.slice kst n.pieces.length kcst)) (((try dsimp only); (repeat' apply And.intro)) <;> (go_keep; done))
      (first
       | (go_at_call 44; refine (kbehind_any _ n s _ ((unhide HKK).below bw0) (unhide HS) hlen.2).mono ?_; rintro e w2 ⟨rfl, hb2⟩; obtain ⟨hc2, hf2⟩ := bcell hb2; have sz2 := hb2.size; (try simp at sz2); have m0 := hc2 (w1.heap.size + 1) 0 (by simp); have m1 := hc2 (w1.heap.size + 1) 1 (by simp); have m2 := hc2 (w1.heap.size + 1) 2 (by simp); have m3 := hc2 (w1.heap.size + 1) 3 (by simp); have m4 := hf2 (w1.heap.size + 1) 3 (by simp); have m5 := hf2 (w1.heap.size + 1) 2 (by simp); have lt2 : w1.heap.size + 1 < w2.heap.size := (by omega); have qq0 := hc2 (B) (0) (by first | (simp; done) | (simp; omega) | omega); have qq1 := hc2 (B) (1) (by first | (simp; done) | (simp; omega) | omega); have qq2 := hc2 (B) (2) (by first | (simp; done) | (simp; omega) | omega); have qq3 := hc2 (B) (3) (by first | (simp; done) | (simp; omega) | omega); have qq4 := hc2 (B) (4) (by first | (simp; done) | (simp; omega) | omega); have qq5 := hc2 (B) (5) (by first | (simp; done) | (simp; omega) | omega); have qs0 := hc2 (B) (7) (by first | (simp; done) | (simp; omega) | omega)))
     have hbw12 : Below w1.heap.size w1 w2 := below_then bw0 hb2
     clear qq0 qq1 qq2 qq3 qq4 qq5
     go_wp2_with (at_builtin; refine wpList_append_own _ rfl (.tmp 53) (.tmp 55) 77 rfl w.heap.size 81 i0 (.agg #[.int .i64 0, .int .i64 0, .int .i64 0, .int .i64 0]) 4 32 Tryz.underlying77 hi hz0 hz1 hz2 rfl (by decide) _ _ _ rfl ((unhide HROW1).below (bw1 hbw12)) _ 1 1 (sxF ⟨⟨tn, ty⟩, sp, (behind n s)⟩) rfl rfl ?c1a ?c2a ?c3a ?c4a ?c5a ?_)
     case c1a =>
      intro j u hj
      match j, hj with
      | 0, hj => simp [sxF] at hj; subst hj; simp only [Addr.add]; exact (boxedN _ _ _ (by first | (simp; done) | (simp [World.setCell]; done))).2.1 0 _ rfl
      | 1, hj => simp [sxF] at hj; subst hj; simp only [Addr.add]; exact (boxedN _ _ _ (by first | (simp; done) | (simp [World.setCell]; done))).2.1 1 _ rfl
      | 2, hj => simp [sxF] at hj; subst hj; simp only [Addr.add]; exact (boxedN _ _ _ (by first | (simp; done) | (simp [World.setCell]; done))).2.1 2 _ rfl
      | 3, hj => simp [sxF] at hj; subst hj; simp only [Addr.add]; exact (boxedN _ _ _ (by first | (simp; done) | (simp [World.setCell]; done))).2.1 3 _ rfl
     case c2a => intro u hu; simp [sxF] at hu; rcases hu with rfl | rfl | rfl | rfl <;> rfl
     case c3a => rw [unhide HLT]; unfold maxLen; omega
     case c4a => rw [unhide HLT]; omega
     case c5a => simp [World.setCell]; omega
     intro v' w3 hown' hgrow _
     have hrow3 : SxRow w3 w.heap.size v' _ := Row.snoc (f := sxF) hown'
     have hb3 : Below w.heap.size w w3 := Below.grown (below_then hbw1 (bw1 hbw12)) hgrow (by simp [World.setCell]; omega) (fun j hj => ((unhide HROW1).lt j hj).1)
     have HROW3 := hide hrow3
     clear hrow3 hown' hgrow
     go_wp2
     refine ⟨⟨k + 1, by omega, by go_num, ?_, hb3⟩, by simp [intOf]; omega⟩
     rw [unhide HT]
     exact HROW3
    ·skip
     have q1 : ((k : Int) == 0) = true := by simp; omega
     have q2 : ((k : Int) == (xs.length : Int)) = false := by simp; omega
     rw [if_neg hl0, if_pos hk0] at HT
     clear hk0 hl0
     go_wp2_with fail
     go_region
     go_wp2_with fail
     go_region_held3 (fun w' => w'.cell? ⟨B, 0, none⟩ = some (.int .i64 s.piece) ∧ w'.cell? ⟨B, 1, none⟩ = some (.int .i64 s.at_) ∧ w'.cell? ⟨B, 2, none⟩ = some (.int .i64 s.way) ∧ w'.cell? ⟨B, 3, none⟩ = some (.slice (some ⟨pb, poff, none⟩) n.pieces.length kca) ∧ w'.cell? ⟨B, 4, none⟩ = some (.slice ksh n.joints.length kcsh) ∧ w'.cell? ⟨B, 5, none⟩ = some (.slice kst n.pieces.length kcst)) (((try dsimp only); (repeat' apply And.intro)) <;> (go_keep; done))
      (first
       | (go_at_call 44; refine (kbehind_any _ n s _ ((unhide HKK).below bw0) (unhide HS) hlen.2).mono ?_; rintro e w2 ⟨rfl, hb2⟩; obtain ⟨hc2, hf2⟩ := bcell hb2; have sz2 := hb2.size; (try simp at sz2); have m0 := hc2 (w1.heap.size + 1) 0 (by simp); have m1 := hc2 (w1.heap.size + 1) 1 (by simp); have m2 := hc2 (w1.heap.size + 1) 2 (by simp); have m3 := hc2 (w1.heap.size + 1) 3 (by simp); have m4 := hf2 (w1.heap.size + 1) 3 (by simp); have m5 := hf2 (w1.heap.size + 1) 2 (by simp); have lt2 : w1.heap.size + 1 < w2.heap.size := (by omega); have qq0 := hc2 (B) (0) (by first | (simp; done) | (simp; omega) | omega); have qq1 := hc2 (B) (1) (by first | (simp; done) | (simp; omega) | omega); have qq2 := hc2 (B) (2) (by first | (simp; done) | (simp; omega) | omega); have qq3 := hc2 (B) (3) (by first | (simp; done) | (simp; omega) | omega); have qq4 := hc2 (B) (4) (by first | (simp; done) | (simp; omega) | omega); have qq5 := hc2 (B) (5) (by first | (simp; done) | (simp; omega) | omega); have qs0 := hc2 (B) (7) (by first | (simp; done) | (simp; omega) | omega)))
     have hbw12 : Below w1.heap.size w1 w2 := below_then bw0 hb2
     clear qq0 qq1 qq2 qq3 qq4 qq5
     go_wp2_with (at_builtin; refine wpList_append_own _ rfl (.tmp 53) (.tmp 55) 77 rfl w.heap.size 81 i0 (.agg #[.int .i64 0, .int .i64 0, .int .i64 0, .int .i64 0]) 4 32 Tryz.underlying77 hi hz0 hz1 hz2 rfl (by decide) _ _ _ rfl ((unhide HROW1).below (bw1 hbw12)) _ 1 1 (sxF ⟨⟨tn, ty⟩, 0, (behind n s)⟩) rfl rfl ?c1b ?c2b ?c3b ?c4b ?c5b ?_)
     case c1b =>
      intro j u hj
      match j, hj with
      | 0, hj => simp [sxF] at hj; subst hj; simp only [Addr.add]; exact (boxedN _ _ _ (by first | (simp; done) | (simp [World.setCell]; done))).2.1 0 _ rfl
      | 1, hj => simp [sxF] at hj; subst hj; simp only [Addr.add]; exact (boxedN _ _ _ (by first | (simp; done) | (simp [World.setCell]; done))).2.1 1 _ rfl
      | 2, hj => simp [sxF] at hj; subst hj; simp only [Addr.add]; exact (boxedN _ _ _ (by first | (simp; done) | (simp [World.setCell]; done))).2.1 2 _ rfl
      | 3, hj => simp [sxF] at hj; subst hj; simp only [Addr.add]; exact (boxedN _ _ _ (by first | (simp; done) | (simp [World.setCell]; done))).2.1 3 _ rfl
     case c2b => intro u hu; simp [sxF] at hu; rcases hu with rfl | rfl | rfl | rfl <;> rfl
     case c3b => rw [unhide HLT]; unfold maxLen; omega
     case c4b => rw [unhide HLT]; omega
     case c5b => simp [World.setCell]; omega
     intro v' w3 hown' hgrow _
     have hrow3 : SxRow w3 w.heap.size v' _ := Row.snoc (f := sxF) hown'
     have hb3 : Below w.heap.size w w3 := Below.grown (below_then hbw1 (bw1 hbw12)) hgrow (by simp [World.setCell]; omega) (fun j hj => ((unhide HROW1).lt j hj).1)
     have HROW3 := hide hrow3
     clear hrow3 hown' hgrow
     go_wp2
     refine ⟨⟨k + 1, by omega, by go_num, ?_, hb3⟩, by simp [intOf]; omega⟩
     rw [unhide HT]
     exact HROW3
   ·by_cases hl0 : k = xs.length
    ·skip
     have q1 : ((k : Int) == 0) = false := by simp; omega
     have q2 : ((k : Int) == (xs.length : Int)) = true := by simp; omega
     rw [if_pos hl0, if_neg hk0] at HT
     clear hk0 hl0
     go_wp2_with fail
     go_region
     go_wp2_with (at_builtin; refine wpList_append_own _ rfl (.tmp 53) (.tmp 55) 77 rfl w.heap.size 81 i0 (.agg #[.int .i64 0, .int .i64 0, .int .i64 0, .int .i64 0]) 4 32 Tryz.underlying77 hi hz0 hz1 hz2 rfl (by decide) _ _ _ rfl ((unhide HROW1).below bw0) _ 1 1 (sxF ⟨⟨tn, ty⟩, sp, (lenOf n tn)⟩) rfl rfl ?c1c ?c2c ?c3c ?c4c ?c5c ?_)
     case c1c =>
      intro j u hj
      match j, hj with
      | 0, hj => simp [sxF] at hj; subst hj; simp only [Addr.add]; exact (boxedN _ _ _ (by simp)).2.1 0 _ rfl
      | 1, hj => simp [sxF] at hj; subst hj; simp only [Addr.add]; exact (boxedN _ _ _ (by simp)).2.1 1 _ rfl
      | 2, hj => simp [sxF] at hj; subst hj; simp only [Addr.add]; exact (boxedN _ _ _ (by simp)).2.1 2 _ rfl
      | 3, hj => simp [sxF] at hj; subst hj; simp only [Addr.add]; exact (boxedN _ _ _ (by simp)).2.1 3 _ rfl
     case c2c => intro u hu; simp [sxF] at hu; rcases hu with rfl | rfl | rfl | rfl <;> rfl
     case c3c => rw [unhide HLT]; unfold maxLen; omega
     case c4c => rw [unhide HLT]; omega
     case c5c => simp; omega
     intro v' w3 hown' hgrow _
     have hrow3 : SxRow w3 w.heap.size v' _ := Row.snoc (f := sxF) hown'
     have hb3 : Below w.heap.size w w3 := Below.grown (below_then hbw1 bw0) hgrow (by simp; omega) (fun j hj => ((unhide HROW1).lt j hj).1)
     have HROW3 := hide hrow3
     clear hrow3 hown' hgrow
     go_wp2
     refine ⟨⟨k + 1, by omega, by go_num, ?_, hb3⟩, by simp [intOf]; omega⟩
     rw [unhide HT]
     exact HROW3
    ·skip
     have q1 : ((k : Int) == 0) = false := by simp; omega
     have q2 : ((k : Int) == (xs.length : Int)) = false := by simp; omega
     rw [if_neg hl0, if_neg hk0] at HT
     clear hk0 hl0
     go_wp2_with fail
     go_region
     go_wp2_with (at_builtin; refine wpList_append_own _ rfl (.tmp 53) (.tmp 55) 77 rfl w.heap.size 81 i0 (.agg #[.int .i64 0, .int .i64 0, .int .i64 0, .int .i64 0]) 4 32 Tryz.underlying77 hi hz0 hz1 hz2 rfl (by decide) _ _ _ rfl ((unhide HROW1).below bw0) _ 1 1 (sxF ⟨⟨tn, ty⟩, 0, (lenOf n tn)⟩) rfl rfl ?c1d ?c2d ?c3d ?c4d ?c5d ?_)
     case c1d =>
      intro j u hj
      match j, hj with
      | 0, hj => simp [sxF] at hj; subst hj; simp only [Addr.add]; exact (boxedN _ _ _ (by simp)).2.1 0 _ rfl
      | 1, hj => simp [sxF] at hj; subst hj; simp only [Addr.add]; exact (boxedN _ _ _ (by simp)).2.1 1 _ rfl
      | 2, hj => simp [sxF] at hj; subst hj; simp only [Addr.add]; exact (boxedN _ _ _ (by simp)).2.1 2 _ rfl
      | 3, hj => simp [sxF] at hj; subst hj; simp only [Addr.add]; exact (boxedN _ _ _ (by simp)).2.1 3 _ rfl
     case c2d => intro u hu; simp [sxF] at hu; rcases hu with rfl | rfl | rfl | rfl <;> rfl
     case c3d => rw [unhide HLT]; unfold maxLen; omega
     case c4d => rw [unhide HLT]; omega
     case c5d => simp; omega
     intro v' w3 hown' hgrow _
     have hrow3 : SxRow w3 w.heap.size v' _ := Row.snoc (f := sxF) hown'
     have hb3 : Below w.heap.size w w3 := Below.grown (below_then hbw1 bw0) hgrow (by simp; omega) (fun j hj => ((unhide HROW1).lt j hj).1)
     have HROW3 := hide hrow3
     clear hrow3 hown' hgrow
     go_wp2
     refine ⟨⟨k + 1, by omega, by go_num, ?_, hb3⟩, by simp [intOf]; omega⟩
     rw [unhide HT]
     exact HROW3
  ·have HK : Hid ((stretchL n sp (behind n s) ⟨s.piece, s.way⟩ xs).take k = stretchL n sp (behind n s) ⟨s.piece, s.way⟩ xs) := by
    unfold Hid
    rw [List.take_of_length_le (by rw [stretchL_len]; omega)]
   have hgt : (xs.length : Int) < (k : Int) := by omega
   go_wp2
   go_ret
   refine ⟨_, rfl, ?_, hb⟩
   have := unhide HROW
   rw [unhide HK] at this
   exact this

end Go.Proofs.YtjacbppeebnjfaaGreat

namespace Go.Proofs.YtjacbppeebnjfaaGreat
open Go.RowKit

theorem stretchL_ok {n : Nt} (hG : NetGood n) {sp : Int} (hsp : 0 ≤ sp ∧ sp ≤ 10000000) : ∀ {bk : List St} {along : Int} {at_ : St}, (0 ≤ along ∧ along ≤ 10000000) → StepOk n at_ → (∀ x ∈ bk, StepOk n x) → ∀ x ∈ stretchL n sp along at_ bk, SxOk n x := by
 intro bk
 induction bk with
 | nil =>
  intro along at_ ha hs _ x hx
  simp only [stretchL, List.mem_singleton] at hx
  subst hx
  exact ⟨hs, hsp, ha⟩
 | cons s r ih =>
  intro along at_ ha hs hb x hx
  simp only [stretchL, List.mem_cons] at hx
  rcases hx with rfl | hx
  ·exact ⟨hs, by simp, ha⟩
  ·have hsok := hb s (by simp)
   have := hG.len hsok.1.1 hsok.1.2
   exact ih (by omega) hsok (fun y hy => hb y (by simp [hy])) x hx

theorem spot_behind {n : Nt} (hG : NetGood n) {s : Sp} (hs : SpotOk n s) : 0 ≤ behind n s ∧ behind n s ≤ 10000000 := by
 have hlen := hG.len hs.1.1 hs.1.2
 have h3 := hs.2.2
 unfold behind room
 split <;> omega

def partsB (n : Nt) (s : Sp) (sp : Int) (xs : List St) : List Pt := partsL n (stretchL n sp (behind n s) ⟨s.piece, s.way⟩ xs)
theorem partsB_len (n : Nt) (s : Sp) (sp : Int) (xs : List St) : (partsB n s sp xs).length ≤ xs.length + 1 := by
 have := partsL_len n (stretchL n sp (behind n s) ⟨s.piece, s.way⟩ xs)
 rw [stretchL_len] at this
 exact this

theorem bodyParts_eq {n : Nt} (hG : NetGood n) {t : Tr} (hF : TrainFits n t) : bodyParts n t = partsB n t.front (spare n t) t.back := by
 have hb := spot_behind hG hF.1
 have hl := hF.2.1
 have := body_same hG (long := t.long) (along := behind n t.front) hF.2.2.2 (by omega) hb.1
 unfold bodyParts partsB spare
 rw [show t.long - (behind n t.front - behind n t.front) = t.long by omega] at this
 rw [this]
 congr 1
 congr 1
 omega

end Go.Proofs.YtjacbppeebnjfaaGreat

namespace Go.Proofs.YtjacbppeebnjfaaGreat
open Go.RowKit

def BodyAns (n : Nt) (t : Tr) (ps : List Pt) : Prop := (TrainRight n t ∧ ps = bodyParts n t) ∨ (¬ TrainRight n t ∧ ps = [])
theorem BodyAns.unique {n : Nt} {t : Tr} {ps qs : List Pt} (h : BodyAns n t ps) (g : BodyAns n t qs) : ps = qs := by
 rcases h with ⟨h, rfl⟩ | ⟨h, rfl⟩ <;> rcases g with ⟨g, rfl⟩ | ⟨g, rfl⟩
 ·rfl
 ·exact absurd h g
 ·exact absurd g h
 ·rfl
theorem BodyAns.len {n : Nt} {t : Tr} {ps : List Pt} (h : BodyAns n t ps) : ps.length ≤ 201 := by
 rcases h with ⟨h, rfl⟩ | ⟨h, rfl⟩
 ·have hG := netGood h.1
  rw [bodyParts_eq hG h.2]
  have := partsB_len n t.front (spare n t) t.back
  have := h.2.2.2.1
  omega
 ·simp

end Go.Proofs.YtjacbppeebnjfaaGreat

namespace Go.Proofs.YtjacbppeebnjfaaGreat
open Go.RowKit

end Go.Proofs.YtjacbppeebnjfaaGreat

