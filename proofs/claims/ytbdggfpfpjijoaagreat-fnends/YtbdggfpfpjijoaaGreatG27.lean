import Derived.Test.YtbdggfpfpjijoaaGreatKt17
import Derived.Test.YtbdggfpfpjijoaaGreatG22
import Derived.Test.YtbdggfpfpjijoaaGreatG6
namespace Go.Proofs.YtbdggfpfpjijoaaGreat
open Go.RowKit

theorem stretchL_at (n : Nt) (sp : Int) (s : Sp) (xs : List St) (k : Nat) (h : k ≤ xs.length) :
    (stretchL n sp (behind n s) ⟨s.piece, s.way⟩ xs).take (k + 1) = (stretchL n sp (behind n s) ⟨s.piece, s.way⟩ xs).take k ++ [⟨stepOf s xs k, if k = xs.length then sp else 0, if k = 0 then behind n s else lenOf n (stepOf s xs k).piece⟩] := by
  have hlt : k < (stretchL n sp (behind n s) ⟨s.piece, s.way⟩ xs).length := by rw [stretchL_len]; omega
  rw [List.take_succ_eq_append_getElem hlt, stretchL_get]
  have : (⟨s.piece, s.way⟩ :: xs : List St).getD k ⟨0, 0⟩ = stepOf s xs k := by
    unfold stepOf
    cases k with
    | zero => simp
    | succ k => simp
  rw [this]

set_option maxRecDepth 100000 in
set_option maxHeartbeats 8000000 in
theorem stretches_any (B : Nat) (n : Nt) (ka ksh kst : Option Addr) (kca kcsh kcst : Nat) (s : Sp) (long sp : Int) (xs : List St) (w : World) (h : GB w B (.slice ka n.pieces.length kca) (.slice ksh n.joints.length kcsh) (.slice kst n.pieces.length kcst) s long sp xs)
    (hk : TrkAt 0 w (.agg #[.slice ka n.pieces.length kca, .slice ksh n.joints.length kcsh, .slice kst n.pieces.length kcst]) n) (hG : NetGood n) (hs : SpotOk n s) (hxs : ∀ x ∈ xs, StepOk n x) (hx200 : xs.length ≤ 200) :
    Calls Tryz.prog 61 #[.pointer (some ⟨B, 0, none⟩)] w fun e w' => ∃ u, e = .returned u ∧ SxRow w' w.heap.size u (stretchL n sp (behind n s) ⟨s.piece, s.way⟩ xs) ∧ Below w.heap.size w w' := by
  have hB := h.lt
  obtain ⟨_, _, _, _, _, _, _, _, c411⟩ := h.cells
  obtain ⟨i0, hi, hz0, hz1, hz2⟩ := info_parts info_stretch
  have hp : PcsAt 0 w ka n.pieces := by
    obtain ⟨a, ca, sh, csh, st, cst, hv, hp, _⟩ := hk
    simp at hv
    rw [hv.1.1]
    exact hp
  have hlen := hG.len hs.1.1 hs.1.2
  have H := hide h
  have HXS := hide hxs
  have HS := hide hs
  clear h hxs hs
  go_enter Tryz.func61, Tryz.ntmps61
  go_wp2_with fail
  go_loopw [3, 5] (fun u z wr => ∃ k : Nat, k ≤ xs.length + 1 ∧ z = .int .i64 k ∧ Hid (SxRow wr w.heap.size u ((stretchL n sp (behind n s) ⟨s.piece, s.way⟩ xs).take k)) ∧ Below w.heap.size w wr) (fun _ z _ => xs.length + 1 - (intOf z).toNat)
  case atStart => exact ⟨0, Nat.zero_le _, rfl, hide (Row.nil _ _ _ _ _), Below.refl _ _⟩
  case round =>
    obtain ⟨k, hk', rfl, HROW, hb⟩ := hrel
    clear c411
    by_cases hlt : k ≤ xs.length
    · have hszr := hb.size
      have hle : (k : Int) ≤ (xs.length : Int) := by omega
      have hT := stretchL_at n sp s xs k hlt
      have hok := stepOf_ok (n := n) (s := s) (xs := xs) ⟨(unhide HS).1, (unhide HS).2.1⟩ (unhide HXS) hlt
      have HT := hide hT
      have hgb := (unhide H).below hb
      have HGB := hide hgb
      have hlenT : ((stretchL n sp (behind n s) ⟨s.piece, s.way⟩ xs).take k).length = k := by rw [List.length_take, stretchL_len]; omega
      have HLT := hide hlenT
      obtain ⟨pre, hpre⟩ : ∃ pre, (stretchL n sp (behind n s) ⟨s.piece, s.way⟩ xs).take k = pre := ⟨_, rfl⟩
      rw [hpre] at HT HLT HROW
      clear hpre
      clear hT hgb hlenT
      go_wp2_with fail
      refine (gStepAt_any B k _ _ _ s long sp xs _ (unhide HGB) hlt).mono ?_
      rintro e w1 ⟨rfl, hb1⟩
      obtain ⟨sk, hsk⟩ : ∃ sk, stepOf s xs k = sk := ⟨_, rfl⟩
      rw [hsk] at HT hok ⊢
      have HSK := hide hsk
      clear hsk
      obtain ⟨tp, ty⟩ := sk
      have HOKS := hide hok
      obtain ⟨⟨h1, h2⟩, _⟩ := hok
      dsimp only at h1 h2 ⊢
      have hlens := hG.len h1 h2
      obtain ⟨tn, rfl⟩ := Int.eq_ofNat_of_zero_le h1
      obtain ⟨pb, poff, rfl, hpb, c1w⟩ := hp.len h1 h2
      have hbw1 := below_then hb hb1
      have hsz1 := hb1.size
      have c1 := (hbw1.cell hpb).trans c1w
      simp only [Int.toNat_natCast] at c1
      have hgb1 := (unhide HGB).below hb1
      have HGB1 := hide hgb1
      obtain ⟨g0, g1, g2, g3, g4, g5, g6, g7, g411⟩ := hgb1.cells
      clear hgb1
      have hB1 : B < w1.heap.size := by omega
      have hB2 : B < w1.heap.size + 1 := by omega
      have nB1 : ¬ B = w1.heap.size + 1 := by omega
      have nB2 : ¬ w1.heap.size + 1 = B := by omega
      have hpb1 : pb < w1.heap.size := by omega
      have hpb2 : pb < w1.heap.size + 1 := by omega
      have hrow1 := (unhide HROW).below hb1
      have HROW1 := hide hrow1
      clear hrow1 HROW
      have hkk := hk.below hbw1
      have HKK := hide hkk
      clear hkk
      by_cases hk0 : k = 0
      · by_cases hl0 : k = xs.length
        · skip
          have q1 : ((k : Int) == 0) = true := by simp; omega
          have q2 : ((k : Int) == (xs.length : Int)) = true := by simp; omega
          rw [if_pos hl0, if_pos hk0] at HT
          clear hk0 hl0
          go_wp2_with fail
          go_region
          go_wp2_with fail
          go_region_held3 (fun w' => w'.cell? ⟨B, 0, none⟩ = some (.int .i64 s.piece) ∧ w'.cell? ⟨B, 1, none⟩ = some (.int .i64 s.at_) ∧ w'.cell? ⟨B, 2, none⟩ = some (.int .i64 s.way) ∧ w'.cell? ⟨B, 3, none⟩ = some (.slice (some ⟨pb, poff, none⟩) n.pieces.length kca) ∧ w'.cell? ⟨B, 4, none⟩ = some (.slice ksh n.joints.length kcsh) ∧ w'.cell? ⟨B, 5, none⟩ = some (.slice kst n.pieces.length kcst)) (((try dsimp only); (repeat' apply And.intro)) <;> (go_keep; done))
            (first
              | (go_at_call 113; refine (kbehind_any _ n s _ ((unhide HKK).below bw0) (unhide HS) hlen.2).mono ?_; rintro e w2 ⟨rfl, hb2⟩; obtain ⟨hc2, hf2⟩ := bcell hb2; have sz2 := hb2.size; (try simp at sz2); have m0 := hc2 (w1.heap.size + 1) 0 (by simp); have m1 := hc2 (w1.heap.size + 1) 1 (by simp); have m2 := hc2 (w1.heap.size + 1) 2 (by simp); have m3 := hc2 (w1.heap.size + 1) 3 (by simp); have m4 := hf2 (w1.heap.size + 1) 3 (by simp); have m5 := hf2 (w1.heap.size + 1) 2 (by simp); have lt2 : w1.heap.size + 1 < w2.heap.size := (by omega); have qq0 := hc2 (B) (0) (by first | (simp; done) | (simp; omega) | omega); have qq1 := hc2 (B) (1) (by first | (simp; done) | (simp; omega) | omega); have qq2 := hc2 (B) (2) (by first | (simp; done) | (simp; omega) | omega); have qq3 := hc2 (B) (3) (by first | (simp; done) | (simp; omega) | omega); have qq4 := hc2 (B) (4) (by first | (simp; done) | (simp; omega) | omega); have qq5 := hc2 (B) (5) (by first | (simp; done) | (simp; omega) | omega); have qs0 := hc2 (B) (7) (by first | (simp; done) | (simp; omega) | omega)))
          have hbw12 : Below w1.heap.size w1 w2 := below_then bw0 hb2
          clear qq0 qq1 qq2 qq3 qq4 qq5
          go_wp2_with (at_builtin; refine wpList_append_own _ rfl (.tmp 53) (.tmp 55) 122 rfl w.heap.size 126 i0 (.agg #[.int .i64 0, .int .i64 0, .int .i64 0, .int .i64 0]) 4 32 Tryz.underlying122 hi hz0 hz1 hz2 rfl (by decide) _ _ _ rfl ((unhide HROW1).below (by repeat (first | with_reducible exact Below.refl _ _ | with_reducible exact hbw12 | refine bwS ?_ | refine bwA ?_ | refine Below.drew ?_ | refine below_draws ?_ _ | exact hbw12 | exact Below.refl _ _))) _ 1 1 (sxF ⟨⟨tn, ty⟩, sp, (behind n s)⟩) rfl rfl ?c1a ?c2a ?c3a ?c4a ?c5a ?_)
          case c1a =>
            intro j u hj
            match j, hj with
            | 0, hj => simp [sxF] at hj; subst hj; simp only [Addr.add]; exact (boxedN _ _ _ (by first | (simp; done) | (simp [World.setCell]; done))).2.1 0 _ rfl
            | 1, hj => simp [sxF] at hj; subst hj; simp only [Addr.add]; exact (boxedN _ _ _ (by first | (simp; done) | (simp [World.setCell]; done))).2.1 1 _ rfl
            | 2, hj => simp [sxF] at hj; subst hj; simp only [Addr.add]; exact (boxedN _ _ _ (by first | (simp; done) | (simp [World.setCell]; done))).2.1 2 _ rfl
            | 3, hj => simp [sxF] at hj; subst hj; simp only [Addr.add]; exact (boxedN _ _ _ (by first | (simp; done) | (simp [World.setCell]; done))).2.1 3 _ rfl
          case c2a => intro u hu; simp [sxF] at hu; rcases hu with rfl | rfl | rfl | rfl <;> rfl
          case c3a => rw [unhide HLT]; unfold maxLen; omega
          case c4a => rw [unhide HLT]; omega
          case c5a => simp [World.setCell]; omega
          intro v' w3 hown' hgrow _
          have hrow3 : SxRow w3 w.heap.size v' _ := Row.snoc (f := sxF) hown'
          have hb3 : Below w.heap.size w w3 := Below.grown (below_then hbw1 (by repeat (first | with_reducible exact Below.refl _ _ | with_reducible exact hbw12 | refine bwS ?_ | refine bwA ?_ | refine Below.drew ?_ | refine below_draws ?_ _ | exact hbw12 | exact Below.refl _ _))) hgrow (by simp [World.setCell]; omega) (fun j hj => ((unhide HROW1).lt j hj).1)
          have HROW3 := hide hrow3
          clear hrow3 hown' hgrow
          go_wp2
          refine ⟨⟨k + 1, by omega, by go_num, ?_, hb3⟩, by simp [intOf]; omega⟩
          rw [unhide HT]
          exact HROW3
        · skip
          have q1 : ((k : Int) == 0) = true := by simp; omega
          have q2 : ((k : Int) == (xs.length : Int)) = false := by simp; omega
          rw [if_neg hl0, if_pos hk0] at HT
          clear hk0 hl0
          go_wp2_with fail
          go_region
          go_wp2_with fail
          go_region_held3 (fun w' => w'.cell? ⟨B, 0, none⟩ = some (.int .i64 s.piece) ∧ w'.cell? ⟨B, 1, none⟩ = some (.int .i64 s.at_) ∧ w'.cell? ⟨B, 2, none⟩ = some (.int .i64 s.way) ∧ w'.cell? ⟨B, 3, none⟩ = some (.slice (some ⟨pb, poff, none⟩) n.pieces.length kca) ∧ w'.cell? ⟨B, 4, none⟩ = some (.slice ksh n.joints.length kcsh) ∧ w'.cell? ⟨B, 5, none⟩ = some (.slice kst n.pieces.length kcst)) (((try dsimp only); (repeat' apply And.intro)) <;> (go_keep; done))
            (first
              | (go_at_call 113; refine (kbehind_any _ n s _ ((unhide HKK).below bw0) (unhide HS) hlen.2).mono ?_; rintro e w2 ⟨rfl, hb2⟩; obtain ⟨hc2, hf2⟩ := bcell hb2; have sz2 := hb2.size; (try simp at sz2); have m0 := hc2 (w1.heap.size + 1) 0 (by simp); have m1 := hc2 (w1.heap.size + 1) 1 (by simp); have m2 := hc2 (w1.heap.size + 1) 2 (by simp); have m3 := hc2 (w1.heap.size + 1) 3 (by simp); have m4 := hf2 (w1.heap.size + 1) 3 (by simp); have m5 := hf2 (w1.heap.size + 1) 2 (by simp); have lt2 : w1.heap.size + 1 < w2.heap.size := (by omega); have qq0 := hc2 (B) (0) (by first | (simp; done) | (simp; omega) | omega); have qq1 := hc2 (B) (1) (by first | (simp; done) | (simp; omega) | omega); have qq2 := hc2 (B) (2) (by first | (simp; done) | (simp; omega) | omega); have qq3 := hc2 (B) (3) (by first | (simp; done) | (simp; omega) | omega); have qq4 := hc2 (B) (4) (by first | (simp; done) | (simp; omega) | omega); have qq5 := hc2 (B) (5) (by first | (simp; done) | (simp; omega) | omega); have qs0 := hc2 (B) (7) (by first | (simp; done) | (simp; omega) | omega)))
          have hbw12 : Below w1.heap.size w1 w2 := below_then bw0 hb2
          clear qq0 qq1 qq2 qq3 qq4 qq5
          go_wp2_with (at_builtin; refine wpList_append_own _ rfl (.tmp 53) (.tmp 55) 122 rfl w.heap.size 126 i0 (.agg #[.int .i64 0, .int .i64 0, .int .i64 0, .int .i64 0]) 4 32 Tryz.underlying122 hi hz0 hz1 hz2 rfl (by decide) _ _ _ rfl ((unhide HROW1).below (by repeat (first | with_reducible exact Below.refl _ _ | with_reducible exact hbw12 | refine bwS ?_ | refine bwA ?_ | refine Below.drew ?_ | refine below_draws ?_ _ | exact hbw12 | exact Below.refl _ _))) _ 1 1 (sxF ⟨⟨tn, ty⟩, 0, (behind n s)⟩) rfl rfl ?c1b ?c2b ?c3b ?c4b ?c5b ?_)
          case c1b =>
            intro j u hj
            match j, hj with
            | 0, hj => simp [sxF] at hj; subst hj; simp only [Addr.add]; exact (boxedN _ _ _ (by first | (simp; done) | (simp [World.setCell]; done))).2.1 0 _ rfl
            | 1, hj => simp [sxF] at hj; subst hj; simp only [Addr.add]; exact (boxedN _ _ _ (by first | (simp; done) | (simp [World.setCell]; done))).2.1 1 _ rfl
            | 2, hj => simp [sxF] at hj; subst hj; simp only [Addr.add]; exact (boxedN _ _ _ (by first | (simp; done) | (simp [World.setCell]; done))).2.1 2 _ rfl
            | 3, hj => simp [sxF] at hj; subst hj; simp only [Addr.add]; exact (boxedN _ _ _ (by first | (simp; done) | (simp [World.setCell]; done))).2.1 3 _ rfl
          case c2b => intro u hu; simp [sxF] at hu; rcases hu with rfl | rfl | rfl | rfl <;> rfl
          case c3b => rw [unhide HLT]; unfold maxLen; omega
          case c4b => rw [unhide HLT]; omega
          case c5b => simp [World.setCell]; omega
          intro v' w3 hown' hgrow _
          have hrow3 : SxRow w3 w.heap.size v' _ := Row.snoc (f := sxF) hown'
          have hb3 : Below w.heap.size w w3 := Below.grown (below_then hbw1 (by repeat (first | with_reducible exact Below.refl _ _ | with_reducible exact hbw12 | refine bwS ?_ | refine bwA ?_ | refine Below.drew ?_ | refine below_draws ?_ _ | exact hbw12 | exact Below.refl _ _))) hgrow (by simp [World.setCell]; omega) (fun j hj => ((unhide HROW1).lt j hj).1)
          have HROW3 := hide hrow3
          clear hrow3 hown' hgrow
          go_wp2
          refine ⟨⟨k + 1, by omega, by go_num, ?_, hb3⟩, by simp [intOf]; omega⟩
          rw [unhide HT]
          exact HROW3
      · by_cases hl0 : k = xs.length
        · skip
          have q1 : ((k : Int) == 0) = false := by simp; omega
          have q2 : ((k : Int) == (xs.length : Int)) = true := by simp; omega
          rw [if_pos hl0, if_neg hk0] at HT
          clear hk0 hl0
          go_wp2_with fail
          go_region
          go_wp2_with (at_builtin; refine wpList_append_own _ rfl (.tmp 53) (.tmp 55) 122 rfl w.heap.size 126 i0 (.agg #[.int .i64 0, .int .i64 0, .int .i64 0, .int .i64 0]) 4 32 Tryz.underlying122 hi hz0 hz1 hz2 rfl (by decide) _ _ _ rfl ((unhide HROW1).below bw0) _ 1 1 (sxF ⟨⟨tn, ty⟩, sp, (lenOf n tn)⟩) rfl rfl ?c1c ?c2c ?c3c ?c4c ?c5c ?_)
          case c1c =>
            intro j u hj
            match j, hj with
            | 0, hj => simp [sxF] at hj; subst hj; simp only [Addr.add]; exact (boxedN _ _ _ (by simp)).2.1 0 _ rfl
            | 1, hj => simp [sxF] at hj; subst hj; simp only [Addr.add]; exact (boxedN _ _ _ (by simp)).2.1 1 _ rfl
            | 2, hj => simp [sxF] at hj; subst hj; simp only [Addr.add]; exact (boxedN _ _ _ (by simp)).2.1 2 _ rfl
            | 3, hj => simp [sxF] at hj; subst hj; simp only [Addr.add]; exact (boxedN _ _ _ (by simp)).2.1 3 _ rfl
          case c2c => intro u hu; simp [sxF] at hu; rcases hu with rfl | rfl | rfl | rfl <;> rfl
          case c3c => rw [unhide HLT]; unfold maxLen; omega
          case c4c => rw [unhide HLT]; omega
          case c5c => simp; omega
          intro v' w3 hown' hgrow _
          have hrow3 : SxRow w3 w.heap.size v' _ := Row.snoc (f := sxF) hown'
          have hb3 : Below w.heap.size w w3 := Below.grown (below_then hbw1 bw0) hgrow (by simp; omega) (fun j hj => ((unhide HROW1).lt j hj).1)
          have HROW3 := hide hrow3
          clear hrow3 hown' hgrow
          go_wp2
          refine ⟨⟨k + 1, by omega, by go_num, ?_, hb3⟩, by simp [intOf]; omega⟩
          rw [unhide HT]
          exact HROW3
        · skip
          have q1 : ((k : Int) == 0) = false := by simp; omega
          have q2 : ((k : Int) == (xs.length : Int)) = false := by simp; omega
          rw [if_neg hl0, if_neg hk0] at HT
          clear hk0 hl0
          go_wp2_with fail
          go_region
          go_wp2_with (at_builtin; refine wpList_append_own _ rfl (.tmp 53) (.tmp 55) 122 rfl w.heap.size 126 i0 (.agg #[.int .i64 0, .int .i64 0, .int .i64 0, .int .i64 0]) 4 32 Tryz.underlying122 hi hz0 hz1 hz2 rfl (by decide) _ _ _ rfl ((unhide HROW1).below bw0) _ 1 1 (sxF ⟨⟨tn, ty⟩, 0, (lenOf n tn)⟩) rfl rfl ?c1d ?c2d ?c3d ?c4d ?c5d ?_)
          case c1d =>
            intro j u hj
            match j, hj with
            | 0, hj => simp [sxF] at hj; subst hj; simp only [Addr.add]; exact (boxedN _ _ _ (by simp)).2.1 0 _ rfl
            | 1, hj => simp [sxF] at hj; subst hj; simp only [Addr.add]; exact (boxedN _ _ _ (by simp)).2.1 1 _ rfl
            | 2, hj => simp [sxF] at hj; subst hj; simp only [Addr.add]; exact (boxedN _ _ _ (by simp)).2.1 2 _ rfl
            | 3, hj => simp [sxF] at hj; subst hj; simp only [Addr.add]; exact (boxedN _ _ _ (by simp)).2.1 3 _ rfl
          case c2d => intro u hu; simp [sxF] at hu; rcases hu with rfl | rfl | rfl | rfl <;> rfl
          case c3d => rw [unhide HLT]; unfold maxLen; omega
          case c4d => rw [unhide HLT]; omega
          case c5d => simp; omega
          intro v' w3 hown' hgrow _
          have hrow3 : SxRow w3 w.heap.size v' _ := Row.snoc (f := sxF) hown'
          have hb3 : Below w.heap.size w w3 := Below.grown (below_then hbw1 bw0) hgrow (by simp; omega) (fun j hj => ((unhide HROW1).lt j hj).1)
          have HROW3 := hide hrow3
          clear hrow3 hown' hgrow
          go_wp2
          refine ⟨⟨k + 1, by omega, by go_num, ?_, hb3⟩, by simp [intOf]; omega⟩
          rw [unhide HT]
          exact HROW3
    · have HK : Hid ((stretchL n sp (behind n s) ⟨s.piece, s.way⟩ xs).take k = stretchL n sp (behind n s) ⟨s.piece, s.way⟩ xs) := by
        unfold Hid
        rw [List.take_of_length_le (by rw [stretchL_len]; omega)]
      have hgt : (xs.length : Int) < (k : Int) := by omega
      go_wp2
      go_ret
      refine ⟨_, rfl, ?_, hb⟩
      have := unhide HROW
      rw [unhide HK] at this
      exact this

end Go.Proofs.YtbdggfpfpjijoaaGreat

namespace Go.Proofs.YtbdggfpfpjijoaaGreat
open Go.RowKit

theorem ptRow_at {w : World} {base : Nat} {v : Value} {ps : List Pt} (h : PtRow w base v ps) : ∃ a cap, v = .slice a ps.length cap ∧ ps.length ≤ cap ∧ PtsAt base w a ps := by
  obtain ⟨a, cap, hv, hc, hx⟩ := h.shape ptF_len
  refine ⟨a, cap, hv, hc, fun i hi => ?_⟩
  obtain ⟨g, ha, hg, hj⟩ := hx i hi
  have e0 := hj 0 (by omega)
  have e1 := hj 1 (by omega)
  have e2 := hj 2 (by omega)
  simp only [ptF] at e0 e1 e2
  exact ⟨g, 0, ha, hg, by simpa using e0, by simpa using e1, by simpa using e2⟩

theorem stretchL_ok {n : Nt} (hG : NetGood n) {sp : Int} (hsp : 0 ≤ sp ∧ sp ≤ 10000000) : ∀ {bk : List St} {along : Int} {at_ : St}, (0 ≤ along ∧ along ≤ 10000000) → StepOk n at_ → (∀ x ∈ bk, StepOk n x) → ∀ x ∈ stretchL n sp along at_ bk, SxOk n x := by
  intro bk
  induction bk with
  | nil =>
    intro along at_ ha hs _ x hx
    simp only [stretchL, List.mem_singleton] at hx
    subst hx
    exact ⟨hs, hsp, ha⟩
  | cons s r ih =>
    intro along at_ ha hs hb x hx
    simp only [stretchL, List.mem_cons] at hx
    rcases hx with rfl | hx
    · exact ⟨hs, by simp, ha⟩
    · have hsok := hb s (by simp)
      have := hG.len hsok.1.1 hsok.1.2
      exact ih (by omega) hsok (fun y hy => hb y (by simp [hy])) x hx

theorem spot_behind {n : Nt} (hG : NetGood n) {s : Sp} (hs : SpotOk n s) : 0 ≤ behind n s ∧ behind n s ≤ 10000000 := by
  have hlen := hG.len hs.1.1 hs.1.2
  have h3 := hs.2.2
  unfold behind room
  split <;> omega

theorem stretches_b (B : Nat) (n : Nt) (ka ksh kst : Option Addr) (kca kcsh kcst : Nat) (s : Sp) (long sp : Int) (xs : List St) (w : World) (h : GB w B (.slice ka n.pieces.length kca) (.slice ksh n.joints.length kcsh) (.slice kst n.pieces.length kcst) s long sp xs)
    (hk : TrkAt 0 w (.agg #[.slice ka n.pieces.length kca, .slice ksh n.joints.length kcsh, .slice kst n.pieces.length kcst]) n) (hG : NetGood n) (hs : SpotOk n s) (hxs : ∀ x ∈ xs, StepOk n x) (hx200 : xs.length ≤ 200) :
    Calls Tryz.prog 61 #[.pointer (some ⟨B, 0, none⟩)] w fun e w' => ∃ a cap, e = .returned (.slice a (stretchL n sp (behind n s) ⟨s.piece, s.way⟩ xs).length cap) ∧ SxsAt w.heap.size w' a (stretchL n sp (behind n s) ⟨s.piece, s.way⟩ xs) ∧ Below w.heap.size w w' :=
  (stretches_any B n ka ksh kst kca kcsh kcst s long sp xs w h hk hG hs hxs hx200).mono fun e w' ⟨u, he, hr, hb⟩ => by
    obtain ⟨a, cap, hv, _, hx⟩ := sxRow_at hr
    exact ⟨a, cap, by rw [he, hv], hx, hb⟩

def partsB (n : Nt) (s : Sp) (sp : Int) (xs : List St) : List Pt := partsL n (stretchL n sp (behind n s) ⟨s.piece, s.way⟩ xs)
theorem partsB_len (n : Nt) (s : Sp) (sp : Int) (xs : List St) : (partsB n s sp xs).length ≤ xs.length + 1 := by
  have := partsL_len n (stretchL n sp (behind n s) ⟨s.piece, s.way⟩ xs)
  rw [stretchL_len] at this
  exact this

theorem bodyParts_eq {n : Nt} (hG : NetGood n) {t : Tr} (hF : TrainFits n t) : bodyParts n t = partsB n t.front (spare n t) t.back := by
  have hb := spot_behind hG hF.1
  have hl := hF.2.1
  have := body_same hG (long := t.long) (along := behind n t.front) hF.2.2.2 (by omega) hb.1
  unfold bodyParts partsB spare
  rw [show t.long - (behind n t.front - behind n t.front) = t.long by omega] at this
  rw [this]
  congr 1
  congr 1
  omega

set_option maxRecDepth 100000 in
set_option maxHeartbeats 4000000 in
theorem parts_any (B : Nat) (n : Nt) (ka ksh kst : Option Addr) (kca kcsh kcst : Nat) (s : Sp) (long sp : Int) (xs : List St) (w : World) (h : GB w B (.slice ka n.pieces.length kca) (.slice ksh n.joints.length kcsh) (.slice kst n.pieces.length kcst) s long sp xs)
    (hk : TrkAt 0 w (.agg #[.slice ka n.pieces.length kca, .slice ksh n.joints.length kcsh, .slice kst n.pieces.length kcst]) n) (hG : NetGood n) (hs : SpotOk n s) (hxs : ∀ x ∈ xs, StepOk n x) (hx200 : xs.length ≤ 200) (hsp : 0 ≤ sp ∧ sp ≤ 10000000) :
    Calls Tryz.prog 42 #[.pointer (some ⟨B, 0, none⟩)] w fun e w' => ∃ a cap, e = .returned (.slice a (partsB n s sp xs).length cap) ∧ PtRow w' w.heap.size (.slice a (partsB n s sp xs).length cap) (partsB n s sp xs) ∧ Below w.heap.size w w' := by
  have hB := h.lt
  obtain ⟨_, _, _, c3, c4, c5, _⟩ := h.cells
  have H := hide h
  have HXS := hide hxs
  have HS := hide hs
  have HK := hide hk
  clear h hxs hs hk
  go_enter Tryz.func42, Tryz.ntmps42
  go_wp2_with fail
  go_region_held3 (fun w' => w'.cell? ⟨B, 3, none⟩ = some (.slice ka n.pieces.length kca) ∧ w'.cell? ⟨B, 4, none⟩ = some (.slice ksh n.joints.length kcsh) ∧ w'.cell? ⟨B, 5, none⟩ = some (.slice kst n.pieces.length kcst)) (((try dsimp only); (repeat' apply And.intro)) <;> (go_keep; done))
    (first
      | (go_at_call 61; refine (stretches_b B n ka ksh kst kca kcsh kcst s long sp xs _ ((unhide H).below bw0) ((unhide HK).below bw0) hG (unhide HS) (unhide HXS) hx200).mono ?_; rintro e w1 ⟨sa, scap, rfl, hsx, hb1⟩; obtain ⟨hc1, hf1⟩ := bcell hb1; have qq0 := hc1 (B) (3) (by first | (simp; done) | (simp; omega) | omega); have qq1 := hc1 (B) (4) (by first | (simp; done) | (simp; omega) | omega); have qq2 := hc1 (B) (5) (by first | (simp; done) | (simp; omega) | omega))
      | (go_at_call 98; refine (kpartsOf_any _ n sa scap _ _ ((unhide HK).below (below_then bw0 hb1)) hsx hG (stretchL_ok hG hsp (spot_behind hG (unhide HS)) ⟨(unhide HS).1, (unhide HS).2.1⟩ (unhide HXS)) (by rw [stretchL_len]; omega)).mono ?_; rintro e w2 ⟨u, rfl, hrow, hb2⟩; obtain ⟨pa, pcap, hpv, hpc, hpx⟩ := ptRow_at hrow; rw [hpv]; have HROW := hide hrow; clear hrow; obtain ⟨hc2, hf2⟩ := bcell hb2; have rr0 := hc2 (B) (3) (by first | (have := hb1.size; omega) | (have := hb1.size; simp at this ⊢; omega) | (simp; omega)); have rr1 := hc2 (B) (4) (by first | (have := hb1.size; omega) | (have := hb1.size; simp at this ⊢; omega) | (simp; omega)); have rr2 := hc2 (B) (5) (by first | (have := hb1.size; omega) | (have := hb1.size; simp at this ⊢; omega) | (simp; omega))))
  have hbw1 : Below w.heap.size w w1 := below_then bw0 hb1
  have hbw2 := below_then hbw1 hb2
  go_wp2
  go_ret
  refine ⟨pa, pcap, rfl, ?_, hbw2⟩
  have h1 := unhide HROW
  rw [hpv] at h1
  exact h1.mono (by have := hbw1.size; omega)

end Go.Proofs.YtbdggfpfpjijoaaGreat

namespace Go.Proofs.YtbdggfpfpjijoaaGreat
open Go.RowKit

def BodyAns (n : Nt) (t : Tr) (ps : List Pt) : Prop := (TrainRight n t ∧ ps = bodyParts n t) ∨ (¬ TrainRight n t ∧ ps = [])
theorem BodyAns.unique {n : Nt} {t : Tr} {ps qs : List Pt} (h : BodyAns n t ps) (g : BodyAns n t qs) : ps = qs := by
  rcases h with ⟨h, rfl⟩ | ⟨h, rfl⟩ <;> rcases g with ⟨g, rfl⟩ | ⟨g, rfl⟩
  · rfl
  · exact absurd h g
  · exact absurd g h
  · rfl
theorem BodyAns.len {n : Nt} {t : Tr} {ps : List Pt} (h : BodyAns n t ps) : ps.length ≤ 201 := by
  rcases h with ⟨h, rfl⟩ | ⟨h, rfl⟩
  · have hG := netGood h.1
    rw [bodyParts_eq hG h.2]
    have := partsB_len n t.front (spare n t) t.back
    have := h.2.2.2.1
    omega
  · simp

theorem ptRow_pts {w : World} {base : Nat} {a : Option Addr} {m cap : Nat} {ps : List Pt} (h : PtRow w base (.slice a m cap) ps) : PtsAt 0 w a ps := by
  obtain ⟨a', cap', hv, _, hx⟩ := ptRow_at (h.mono (Nat.zero_le _))
  simp at hv
  rw [hv.1]
  exact hx

def RetPts (n : Nt) (t : Tr) (base : Nat) (e : Ending) (w' : World) : Prop := ∃ a cap ps, BodyAns n t ps ∧ e = .returned (.slice a ps.length cap) ∧ PtRow w' base (.slice a ps.length cap) ps

set_option maxRecDepth 100000 in
set_option maxHeartbeats 4000000 in
theorem specBody_any (v tv : Value) (n : Nt) (t : Tr) (w : World) {L L' : Nat} (hv : NetAt L w v n) (htv : TrAt L' w tv t) (hl : n.pieces.length ≤ 1048576) (hl' : n.joints.length ≤ 1048576)
    (hle : ∀ i (h : i < n.joints.length), n.joints[i].ends.length ≤ 1048576 ∧ n.joints[i].name.size ≤ maxLen) (hnm : ∀ i (h : i < n.pieces.length), n.pieces[i].name.size ≤ maxLen) (hbl : t.back.length ≤ 1048576) :
    Calls Tryz.prog 12 #[v, tv] w fun e w' => RetPts n t w.heap.size e w' ∧ Below w.heap.size w w' := by
  have hvv := hv
  have htt := htv
  obtain ⟨x, c, ca, cc, rfl, hp, hj⟩ := hv
  obtain ⟨ba, bc, rfl, hst⟩ := htv
  go_enter Tryz.func12, Tryz.ntmps12
  go_wp2_with fail
  refine (specTrainOk_any _ _ n t _ (hvv.below ?_) (htt.below ?_) hl hl' hle hnm hbl).mono ?_
  · exact bw0
  · exact bw0
  rintro e w1 ⟨⟨rfl, hR⟩ | ⟨rfl, hR⟩, hb1⟩
  all_goals have hbw1 : Below w.heap.size w w1 := below_then bw0 hb1
  · have hBn1 : Boxed w1 w.heap.size [.slice x n.pieces.length ca, .slice c n.joints.length cc] := ((boxed_alloc _ _ _).alloc _).below hb1
    have hBt1 : Boxed w1 (w.heap.size + 1) [.int .i64 t.front.piece, .int .i64 t.front.at_, .int .i64 t.front.way, .int .i64 t.long, .slice ba t.back.length bc] := (boxedN _ _ _ (by simp)).below hb1
    have a0 := hBn1.2.1 0 _ rfl
    have a1 := hBn1.2.1 1 _ rfl
    have b0 := hBt1.2.1 0 _ rfl
    have b1 := hBt1.2.1 1 _ rfl
    have b2 := hBt1.2.1 2 _ rfl
    have b3 := hBt1.2.1 3 _ rfl
    have b4 := hBt1.2.1 4 _ rfl
    have HR := hide hR
    clear hR
    go_wp2_with fail
    refine (l2body_any _ _ n t _ (hvv.below hbw1) (htt.below hbw1) (netGood (unhide HR).1) (unhide HR).2).mono ?_
    rintro e w2 ⟨u, rfl, hrow, hb2⟩
    obtain ⟨pa, pcap, rfl, hpc, hpx⟩ := ptRow_at hrow
    have HROW := hide hrow
    clear hrow
    have hbw2 := below_then hbw1 hb2
    go_wp2
    go_ret
    exact ⟨⟨pa, pcap, _, Or.inl ⟨unhide HR, rfl⟩, rfl, (unhide HROW).mono (by have := hbw1.size; omega)⟩, hbw2⟩
  · have HR := hide hR
    clear hR
    go_wp2
    go_ret
    exact ⟨⟨none, 0, [], Or.inr ⟨unhide HR, rfl⟩, rfl, Row.nil _ _ _ _ _⟩, hbw1⟩

set_option maxRecDepth 100000 in
set_option maxHeartbeats 4000000 in
theorem implBody_any (v : Value) (n : Nt) (t : Tr) (ba : Option Addr) (bc : Nat) (w : World) {L : Nat} (hv : NetAt L w v n) (hst : StsAt 0 w ba t.back) (hcap : t.back.length ≤ bc) (hbl : t.back.length ≤ 1048576)
    (hl : n.pieces.length ≤ 1048576) (hl' : n.joints.length ≤ 1048576) (hle : ∀ i (h : i < n.joints.length), n.joints[i].name.size ≤ maxLen) (hnm : ∀ i (h : i < n.pieces.length), n.pieces[i].name.size ≤ maxLen) :
    Calls Tryz.prog 9 #[v, .agg #[.int .i64 t.front.piece, .int .i64 t.front.at_, .int .i64 t.front.way, .int .i64 t.long, .slice ba t.back.length bc]] w fun e w' => RetPts n t w.heap.size e w' ∧ Below w.heap.size w w' := by
  have hvv := hv
  obtain ⟨a, c, ca, cc, rfl, hp, hj⟩ := hv
  have hzs : Tryz.zeroCells100.size = 412 := by rw [zero_cells, bodyL_size]
  have HZS := hide hzs
  clear hzs
  go_enter Tryz.func9, Tryz.ntmps9
  go_wp2_with fail
  refine (bodyOn_any _ n t ba bc _ (L := L) ?hA ?hB hcap hbl hl hl' hle hnm).mono ?_
  case hA => exact hvv.below bw0
  case hB => exact hst.below bw0
  rintro e w1 ⟨⟨hR, k0, k1, k2, htk, ⟨o0, o1, o2⟩, rfl⟩ | ⟨hR, rfl⟩, hb1⟩
  · have hbw1 : Below w.heap.size w w1 := below_then bw0 hb1
    have hst5 := store_new w1 _ (unhide HZS) _ (bodyL_len k0 k1 k2 t.front t.long (spare n t) t.back) (bodyL_one _ _ _ _ o0 o1 o2)
    have hlB := bodyL_len k0 k1 k2 t.front t.long (spare n t) t.back
    have hA : Below w1.heap.size w1 (w1.alloc (.cells (bodyL k0 k1 k2 t.front t.long (spare n t) t.back).toArray 100)) := bw0
    have hown := own_new w1 k0 k1 k2 t.front t.long (spare n t) t.back 100
    have htk' := htk
    obtain ⟨ka, kca, ksh, kcsh, kst, kcst, hkv, _⟩ := htk'
    simp at hkv
    obtain ⟨rfl, rfl, rfl⟩ := hkv
    have hG := netGood hR.1
    have hgb := gb_of hown (by have := hR.2.2.2.1; omega)
    have HR := hide hR
    have HGB := hide hgb
    have HTK := hide (htk.below hA)
    have hbwA := below_then hbw1 hA
    clear hR hown htk hgb
    unfold bodyV
    go_wp2_with fail
    refine (parts_any w1.heap.size n ka ksh kst kca kcsh kcst t.front t.long (spare n t) t.back _ (unhide HGB) (unhide HTK) hG (unhide HR).2.1 (backOk_steps (unhide HR).2.2.2.2) (unhide HR).2.2.2.1 (fits_spare hG (unhide HR).2)).mono ?_
    rintro e w3 ⟨pa, pcap, rfl, hrow, hb3⟩
    have hbw3 := below_then hbwA hb3
    have HROW := hide (hrow.mono (show w.heap.size ≤ _ by have := hbwA.size; simpa using this))
    clear hrow
    go_wp2
    go_ret
    refine ⟨⟨pa, pcap, _, Or.inl ⟨unhide HR, (bodyParts_eq hG (unhide HR).2).symm⟩, rfl, unhide HROW⟩, hbw3⟩
  · have hbw1 : Below w.heap.size w w1 := below_then bw0 hb1
    have hst5 := store_new w1 _ (unhide HZS) _ (bodyL_len (.slice none 0 0) (.slice none 0 0) (.slice none 0 0) ⟨0, 0, 0⟩ 0 0 []) (bodyL_one _ _ _ _ rfl rfl rfl)
    have hlB := bodyL_len (.slice none 0 0) (.slice none 0 0) (.slice none 0 0) ⟨0, 0, 0⟩ 0 0 []
    have HR := hide hR
    clear hR
    unfold zeroBody bodyV
    go_wp2
    go_ret
    exact ⟨⟨none, 0, [], Or.inr ⟨unhide HR, rfl⟩, rfl, Row.nil _ _ _ _ _⟩, below_then hbw1 bw0⟩

end Go.Proofs.YtbdggfpfpjijoaaGreat

