import Derived.Test.YtbdggfpfpjijoaaG27
import Derived.Test.YtbdggfpfpjijoaaTouch
namespace Go.Proofs.Ytbdggfpfpjijoaa
open Go.RowKit

def MeetP (n : Nt) (a b : Tr) : Prop := TrainRight n a ∧ TrainFits n b ∧ TouchL (bodyParts n a) (bodyParts n b)

theorem bodyParts_len {n : Nt} (hG : NetGood n) {t : Tr} (hF : TrainFits n t) : (bodyParts n t).length ≤ 201 := by
  rw [bodyParts_eq hG hF]
  have := partsB_len n t.front (spare n t) t.back
  have := hF.2.2.1
  omega





end Go.Proofs.Ytbdggfpfpjijoaa

namespace Go.Proofs.Ytbdggfpfpjijoaa
open Go.RowKit

theorem someTouch_b (a b : Option Addr) (ca cb : Nat) (ps qs : List Pt) (w : World) {L L' : Nat} (hp : PtsAt L w a ps) (hq : PtsAt L' w b qs) (hl : ps.length ≤ 1048576) (hl' : qs.length ≤ 1048576) :
    Calls Try.prog 42 #[.slice a ps.length ca, .slice b qs.length cb] w fun e w' => ∃ sb : Bool, e = .returned (.bool sb) ∧ (sb = true ↔ TouchL ps qs) ∧ Below w.heap.size w w' :=
  (someTouch_any a b ca cb ps qs w hp hq hl hl').mono fun e w' ⟨hs, hb⟩ => by
    rcases hs with ⟨rfl, h⟩ | ⟨rfl, h⟩
    · exact ⟨true, rfl, by simp [h], hb⟩
    · exact ⟨false, rfl, by simp [h], hb⟩

theorem ptRow_at0 {w : World} {base : Nat} {a : Option Addr} {m cap : Nat} {ps : List Pt} (h : PtRow w base (.slice a m cap) ps) : PtsAt 0 w a ps := by
  obtain ⟨a', cap', hv, _, hx⟩ := ptRow_at (h.mono (Nat.zero_le _))
  simp at hv
  rw [hv.1]
  exact hx

set_option maxRecDepth 100000 in
set_option maxHeartbeats 4000000 in
theorem implMeet_any (v : Value) (n : Nt) (t u : Tr) (ba ua : Option Addr) (bc uc : Nat) (w : World) {L : Nat} (hv : NetAt L w v n) (hst : StsAt 0 w ba t.back) (hsu : StsAt 0 w ua u.back) (hcap : t.back.length ≤ bc) (hcap' : u.back.length ≤ uc) (hbl : t.back.length ≤ 1048576) (hbl' : u.back.length ≤ 1048576)
    (hl : n.pieces.length ≤ 1048576) (hl' : n.joints.length ≤ 1048576) (hle : ∀ i (h : i < n.joints.length), n.joints[i].name.size ≤ maxLen) (hnm : ∀ i (h : i < n.pieces.length), n.pieces[i].name.size ≤ maxLen) :
    Calls Try.prog 9 #[v, .agg #[.int .i64 t.front.piece, .int .i64 t.front.at_, .int .i64 t.front.way, .int .i64 t.long, .slice ba t.back.length bc], .agg #[.int .i64 u.front.piece, .int .i64 u.front.at_, .int .i64 u.front.way, .int .i64 u.long, .slice ua u.back.length uc]] w fun e w' => RetB (MeetP n t u) e ∧ Below w.heap.size w w' := by
  have hvv := hv
  obtain ⟨a, c, ca, cc, rfl, hp, hj⟩ := hv
  have hzs : Try.zeroCells101.size = 412 := by rw [zero_cells, bodyL_size]
  have HZS := hide hzs
  clear hzs
  go_enter Try.func9, Try.ntmps9
  go_wp2_with fail
  refine (bodyOn_any _ n t ba bc _ (L := L) ?hA ?hB hcap hbl hl hl' hle hnm).mono ?_
  case hA => exact hvv.below (by repeat (first | with_reducible exact Below.refl _ _ | refine Below.setCell ?_ (by first | omega | (simp <;> omega) | (simp [World.setCell] <;> omega)) _ | refine Below.alloc ?_ (by first | omega | (simp <;> omega) | (simp [World.setCell] <;> omega)) _ | refine Below.drew ?_ | refine below_draws ?_ _ | exact Below.refl _ _))
  case hB => exact hst.below (by repeat (first | with_reducible exact Below.refl _ _ | refine Below.setCell ?_ (by first | omega | (simp <;> omega) | (simp [World.setCell] <;> omega)) _ | refine Below.alloc ?_ (by first | omega | (simp <;> omega) | (simp [World.setCell] <;> omega)) _ | refine Below.drew ?_ | refine below_draws ?_ _ | exact Below.refl _ _))
  rintro e w1 ⟨⟨hR, k0, k1, k2, htk, ⟨o0, o1, o2⟩, rfl⟩ | ⟨hR, rfl⟩, hb1⟩
  · have hbw1 : Below w.heap.size w w1 := below_then (by repeat (first | with_reducible exact Below.refl _ _ | refine Below.setCell ?_ (by first | omega | (simp <;> omega) | (simp [World.setCell] <;> omega)) _ | refine Below.alloc ?_ (by first | omega | (simp <;> omega) | (simp [World.setCell] <;> omega)) _ | refine Below.drew ?_ | refine below_draws ?_ _ | exact Below.refl _ _)) hb1
    have hU1 : Boxed w1 (w.heap.size + 1 + 1) [.int .i64 u.front.piece, .int .i64 u.front.at_, .int .i64 u.front.way, .int .i64 u.long, .slice ua u.back.length uc] := (boxedN _ _ _ (by simp)).below hb1
    have hst5 := store_new w1 _ (unhide HZS) _ (bodyL_len k0 k1 k2 t.front t.long (spare n t) t.back) (bodyL_one _ _ _ _ o0 o1 o2)
    have hlB := bodyL_len k0 k1 k2 t.front t.long (spare n t) t.back
    have hA : Below w1.heap.size w1 (w1.alloc (.cells (bodyL k0 k1 k2 t.front t.long (spare n t) t.back).toArray 101)) := (by repeat (first | with_reducible exact Below.refl _ _ | refine Below.setCell ?_ (by first | omega | (simp <;> omega) | (simp [World.setCell] <;> omega)) _ | refine Below.alloc ?_ (by first | omega | (simp <;> omega) | (simp [World.setCell] <;> omega)) _ | refine Below.drew ?_ | refine below_draws ?_ _ | exact Below.refl _ _))
    have hown := own_new w1 k0 k1 k2 t.front t.long (spare n t) t.back 101
    have htk' := htk
    obtain ⟨ka, kca, ksh, kcsh, kst, kcst, hkv, _⟩ := htk'
    simp at hkv
    obtain ⟨rfl, rfl, rfl⟩ := hkv
    have hG := netGood hR.1
    have d3 : (w1.alloc (.cells (bodyL (.slice ka n.pieces.length kca) (.slice ksh n.joints.length kcsh) (.slice kst n.pieces.length kcst) t.front t.long (spare n t) t.back).toArray 101)).cell? ⟨w1.heap.size, 3, none⟩ = some (.slice ka n.pieces.length kca) := by simpa [bodyF] using (hown.2 3 (by omega)).1
    have d4 : (w1.alloc (.cells (bodyL (.slice ka n.pieces.length kca) (.slice ksh n.joints.length kcsh) (.slice kst n.pieces.length kcst) t.front t.long (spare n t) t.back).toArray 101)).cell? ⟨w1.heap.size, 4, none⟩ = some (.slice ksh n.joints.length kcsh) := by simpa [bodyF] using (hown.2 4 (by omega)).1
    have d5 : (w1.alloc (.cells (bodyL (.slice ka n.pieces.length kca) (.slice ksh n.joints.length kcsh) (.slice kst n.pieces.length kcst) t.front t.long (spare n t) t.back).toArray 101)).cell? ⟨w1.heap.size, 5, none⟩ = some (.slice kst n.pieces.length kcst) := by simpa [bodyF] using (hown.2 5 (by omega)).1
    have hU2 := hU1.below hA
    have u0 := hU2.2.1 0 _ rfl
    have u1 := hU2.2.1 1 _ rfl
    have u2 := hU2.2.1 2 _ rfl
    have u3 := hU2.2.1 3 _ rfl
    have u4 := hU2.2.1 4 _ rfl
    have hgb := gb_of hown (by have := hR.2.2.2.1; omega)
    have HR := hide hR
    have HGB := hide hgb
    have HTK := hide (htk.below hA)
    have HSU := hide (hsu.below (below_then hbw1 hA))
    have hbwA := below_then hbw1 hA
    clear hR hown htk hgb
    unfold bodyV
    go_wp2_with fail
    refine (bodyOf_any n u _ _ _ ua uc _ (unhide HTK) hG (unhide HSU) hcap' hbl').mono ?_
    rintro e w2 ⟨⟨hF, rfl⟩ | ⟨hF, rfl⟩, hb2⟩
    · have hbw2 := below_then hbwA hb2
      have hst6 := store_new w2 _ (unhide HZS) _ (bodyL_len (.slice ka n.pieces.length kca) (.slice ksh n.joints.length kcsh) (.slice kst n.pieces.length kcst) u.front u.long (spare n u) u.back) (bodyL_one _ _ _ _ o0 o1 o2)
      have hlB2 := bodyL_len (.slice ka n.pieces.length kca) (.slice ksh n.joints.length kcsh) (.slice kst n.pieces.length kcst) u.front u.long (spare n u) u.back
      have hA2 : Below w2.heap.size w2 (w2.alloc (.cells (bodyL (.slice ka n.pieces.length kca) (.slice ksh n.joints.length kcsh) (.slice kst n.pieces.length kcst) u.front u.long (spare n u) u.back).toArray 101)) := (by repeat (first | with_reducible exact Below.refl _ _ | refine Below.setCell ?_ (by first | omega | (simp <;> omega) | (simp [World.setCell] <;> omega)) _ | refine Below.alloc ?_ (by first | omega | (simp <;> omega) | (simp [World.setCell] <;> omega)) _ | refine Below.drew ?_ | refine below_draws ?_ _ | exact Below.refl _ _))
      have hown2 := own_new w2 (.slice ka n.pieces.length kca) (.slice ksh n.joints.length kcsh) (.slice kst n.pieces.length kcst) u.front u.long (spare n u) u.back 101
      have hgb2 := gb_of hown2 (by have := hF.2.2.1; omega)
      have hgb1 := ((unhide HGB).below hb2).below hA2
      have htk2 := ((unhide HTK).below hb2).below hA2
      have HG2 := hide hgb2
      have HG1 := hide hgb1
      have HT2 := hide htk2
      have HF := hide hF
      have hbwA2 := below_then hbw2 hA2
      clear hgb2 hgb1 htk2 hown2 hF d3 d4 d5 u0 u1 u2 u3 u4 HGB HTK HSU hst5
      unfold bodyV
      go_wp2_with fail
      refine (parts_any w1.heap.size n ka ksh kst kca kcsh kcst t.front t.long (spare n t) t.back _ (unhide HG1) (unhide HT2) hG (unhide HR).2.1 (backOk_steps (unhide HR).2.2.2.2) (unhide HR).2.2.2.1 (fits_spare hG (unhide HR).2)).mono ?_
      rintro e w3 ⟨pa, pcap, rfl, hrow, hb3⟩
      have hpa := ptRow_at0 hrow
      have HPA := hide hpa
      clear hpa hrow
      go_wp2_with fail
      refine (parts_any w2.heap.size n ka ksh kst kca kcsh kcst u.front u.long (spare n u) u.back _ ((unhide HG2).below hb3) ((unhide HT2).below hb3) hG (unhide HF).1 (backOk_steps (unhide HF).2.2.2) (unhide HF).2.2.1 (fits_spare hG (unhide HF))).mono ?_
      rintro e w4 ⟨qa, qcap, rfl, hrow, hb4⟩
      have hqa := ptRow_at0 hrow
      have HQA := hide hqa
      clear hqa hrow
      go_wp2_with fail
      refine (someTouch_b _ _ _ _ _ _ _ ((unhide HPA).below hb4) (unhide HQA) (by have := partsB_len n t.front (spare n t) t.back; have := (unhide HR).2.2.2.1; omega) (by have := partsB_len n u.front (spare n u) u.back; have := (unhide HF).2.2.1; omega)).mono ?_
      rintro e w5 ⟨sb, rfl, hsb, hb5⟩
      have HSB : Hid (sb = true ↔ MeetP n t u) := by
        rw [← bodyParts_eq hG (unhide HR).2, ← bodyParts_eq hG (unhide HF)] at hsb
        exact hsb.trans ⟨fun g => ⟨unhide HR, unhide HF, g⟩, fun g => g.2.2⟩
      clear hsb
      go_wp2
      go_ret
      exact ⟨retB_of (unhide HSB), below_then (below_then (below_then hbwA2 hb3) hb4) hb5⟩
    · have hbw2 := below_then hbwA hb2
      have hst6 := store_new w2 _ (unhide HZS) _ (bodyL_len (.slice none 0 0) (.slice none 0 0) (.slice none 0 0) ⟨0, 0, 0⟩ 0 0 []) (bodyL_one _ _ _ _ rfl rfl rfl)
      have hlB2 := bodyL_len (.slice none 0 0) (.slice none 0 0) (.slice none 0 0) ⟨0, 0, 0⟩ 0 0 []
      have HF := hide hF
      clear hF d3 d4 d5 u0 u1 u2 u3 u4 hst5
      unfold zeroBody bodyV
      go_wp2
      go_ret
      exact ⟨retB_false fun h => unhide HF h.2.1, below_then hbw2 (by repeat (first | with_reducible exact Below.refl _ _ | refine Below.setCell ?_ (by first | omega | (simp <;> omega) | (simp [World.setCell] <;> omega)) _ | refine Below.alloc ?_ (by first | omega | (simp <;> omega) | (simp [World.setCell] <;> omega)) _ | refine Below.drew ?_ | refine below_draws ?_ _ | exact Below.refl _ _))⟩
  · have hbw1 : Below w.heap.size w w1 := below_then (by repeat (first | with_reducible exact Below.refl _ _ | refine Below.setCell ?_ (by first | omega | (simp <;> omega) | (simp [World.setCell] <;> omega)) _ | refine Below.alloc ?_ (by first | omega | (simp <;> omega) | (simp [World.setCell] <;> omega)) _ | refine Below.drew ?_ | refine below_draws ?_ _ | exact Below.refl _ _)) hb1
    have hst5 := store_new w1 _ (unhide HZS) _ (bodyL_len (.slice none 0 0) (.slice none 0 0) (.slice none 0 0) ⟨0, 0, 0⟩ 0 0 []) (bodyL_one _ _ _ _ rfl rfl rfl)
    have hlB := bodyL_len (.slice none 0 0) (.slice none 0 0) (.slice none 0 0) ⟨0, 0, 0⟩ 0 0 []
    have HR := hide hR
    clear hR
    unfold zeroBody bodyV
    go_wp2
    go_ret
    exact ⟨retB_false fun h => unhide HR h.1, below_then hbw1 (by repeat (first | with_reducible exact Below.refl _ _ | refine Below.setCell ?_ (by first | omega | (simp <;> omega) | (simp [World.setCell] <;> omega)) _ | refine Below.alloc ?_ (by first | omega | (simp <;> omega) | (simp [World.setCell] <;> omega)) _ | refine Below.drew ?_ | refine below_draws ?_ _ | exact Below.refl _ _))⟩

end Go.Proofs.Ytbdggfpfpjijoaa

