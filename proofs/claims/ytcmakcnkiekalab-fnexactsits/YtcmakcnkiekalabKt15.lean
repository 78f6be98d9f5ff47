import Derived.Test.YtcmakcnkiekalabKt14
namespace Go.Proofs.Ytcmakcnkiekalab
open Go.RowKit

def SitsRight (n : Nt) (zs : List Int) (t : Tr) : Prop := TrainRight n t ∧ LiesFit n.joints zs ∧ SitsAll n zs t.front t.back

set_option maxRecDepth 100000 in
set_option maxHeartbeats 4000000 in
theorem implSits_any (v : Value) (n : Nt) (t : Tr) (ba : Option Addr) (bc : Nat) (zq : Option Addr) (zs : List Int) (zc : Nat) (w : World) {L L' : Nat} (hv : NetAt L w v n) (hst : StsAt 0 w ba t.back) (hz : IntsAt L' w zq zs) (hcap : t.back.length ≤ bc) (hbl : t.back.length ≤ 1048576)
    (hl : n.pieces.length ≤ 1048576) (hl' : n.joints.length ≤ 1048576) (hle : ∀ i (h : i < n.joints.length), n.joints[i].name.size ≤ maxLen) (hnm : ∀ i (h : i < n.pieces.length), n.pieces[i].name.size ≤ maxLen) :
    Calls Try.prog 20 #[v, .slice zq zs.length zc, .agg #[.int .i64 t.front.piece, .int .i64 t.front.at_, .int .i64 t.front.way, .int .i64 t.long, .slice ba t.back.length bc]] w fun e w' => RetB (SitsRight n zs t) e ∧ Below w.heap.size w w' := by
  have hvv := hv
  obtain ⟨a, c, ca, cc, rfl, hp, hj⟩ := hv
  have hzs : Try.zeroCells98.size = 412 := by rw [zero_cells, bodyL_size]
  have HZS := hide hzs
  clear hzs
  go_enter Try.func20, Try.ntmps20
  go_wp2_with fail
  refine (bodyOn_any _ n t ba bc _ (L := L) ?hA ?hB hcap hbl hl hl' hle hnm).mono ?_
  case hA => exact hvv.below (by repeat (first | with_reducible exact Below.refl _ _ | refine Below.setCell ?_ (by first | omega | (simp <;> omega) | (simp [World.setCell] <;> omega)) _ | refine Below.alloc ?_ (by first | omega | (simp <;> omega) | (simp [World.setCell] <;> omega)) _ | refine Below.drew ?_ | refine below_draws ?_ _ | exact Below.refl _ _))
  case hB => exact hst.below (by repeat (first | with_reducible exact Below.refl _ _ | refine Below.setCell ?_ (by first | omega | (simp <;> omega) | (simp [World.setCell] <;> omega)) _ | refine Below.alloc ?_ (by first | omega | (simp <;> omega) | (simp [World.setCell] <;> omega)) _ | refine Below.drew ?_ | refine below_draws ?_ _ | exact Below.refl _ _))
  rintro e w1 ⟨⟨hR, k0, k1, k2, htk, ⟨o0, o1, o2⟩, rfl⟩ | ⟨hR, rfl⟩, hb1⟩
  · have hbw1 : Below w.heap.size w w1 := below_then (by repeat (first | with_reducible exact Below.refl _ _ | refine Below.setCell ?_ (by first | omega | (simp <;> omega) | (simp [World.setCell] <;> omega)) _ | refine Below.alloc ?_ (by first | omega | (simp <;> omega) | (simp [World.setCell] <;> omega)) _ | refine Below.drew ?_ | refine below_draws ?_ _ | exact Below.refl _ _)) hb1
    have hst5 := store_new w1 _ (unhide HZS) _ (bodyL_len k0 k1 k2 t.front t.long (spare n t) t.back) (bodyL_one _ _ _ _ o0 o1 o2)
    have hlB := bodyL_len k0 k1 k2 t.front t.long (spare n t) t.back
    have hA : Below w1.heap.size w1 (w1.alloc (.cells (bodyL k0 k1 k2 t.front t.long (spare n t) t.back).toArray 98)) := (by repeat (first | with_reducible exact Below.refl _ _ | refine Below.setCell ?_ (by first | omega | (simp <;> omega) | (simp [World.setCell] <;> omega)) _ | refine Below.alloc ?_ (by first | omega | (simp <;> omega) | (simp [World.setCell] <;> omega)) _ | refine Below.drew ?_ | refine below_draws ?_ _ | exact Below.refl _ _))
    have hown := own_new w1 k0 k1 k2 t.front t.long (spare n t) t.back 98
    have htk' := htk
    obtain ⟨ka, kca, ksh, kcsh, kst, kcst, hkv, _⟩ := htk'
    simp at hkv
    obtain ⟨rfl, rfl, rfl⟩ := hkv
    have hG := netGood hR.1
    have d3 : (w1.alloc (.cells (bodyL (.slice ka n.pieces.length kca) (.slice ksh n.joints.length kcsh) (.slice kst n.pieces.length kcst) t.front t.long (spare n t) t.back).toArray 98)).cell? ⟨w1.heap.size, 3, none⟩ = some (.slice ka n.pieces.length kca) := by simpa [bodyF] using (hown.2 3 (by omega)).1
    have d4 : (w1.alloc (.cells (bodyL (.slice ka n.pieces.length kca) (.slice ksh n.joints.length kcsh) (.slice kst n.pieces.length kcst) t.front t.long (spare n t) t.back).toArray 98)).cell? ⟨w1.heap.size, 4, none⟩ = some (.slice ksh n.joints.length kcsh) := by simpa [bodyF] using (hown.2 4 (by omega)).1
    have d5 : (w1.alloc (.cells (bodyL (.slice ka n.pieces.length kca) (.slice ksh n.joints.length kcsh) (.slice kst n.pieces.length kcst) t.front t.long (spare n t) t.back).toArray 98)).cell? ⟨w1.heap.size, 5, none⟩ = some (.slice kst n.pieces.length kcst) := by simpa [bodyF] using (hown.2 5 (by omega)).1
    have HR := hide hR
    have HOWN := hide hown
    have HTK := hide htk
    clear hR o0 o1 o2 hown htk
    unfold bodyV
    go_wp2_with fail
    refine (liesFit_any _ n _ zs _ _ ((unhide HTK).below hA) (hz.below (below_then hbw1 hA)) hl').mono ?_
    rintro e w2 ⟨⟨rfl, hr⟩ | ⟨rfl, hr⟩, hb2⟩
    · have hbw2 := below_then (below_then hbw1 hA) hb2
      have HF := hide hr
      clear hr d3 d4 d5
      go_wp2_with fail
      refine (bsits_any w1.heap.size n ka ksh kst kca kcsh kcst t.front t.long (spare n t) t.back zq zs _ _ ((unhide HOWN).below hb2) (((unhide HTK).below hA).below hb2) hG (unhide HR).2.2.2.1 ⟨(unhide HR).2.1.1, (unhide HR).2.1.2.1⟩ (backOk_steps (unhide HR).2.2.2.2) (hz.below hbw2) (unhide HF).1).mono ?_
      rintro e w3 ⟨⟨rfl, hr⟩ | ⟨rfl, hr⟩, hb3⟩
      · go_wp2
        go_ret
        exact ⟨retB_true ⟨unhide HR, unhide HF, hr⟩, below_then hbw2 hb3⟩
      · go_wp2
        go_ret
        exact ⟨retB_false fun h => hr h.2.2, below_then hbw2 hb3⟩
    · have hbw2 := below_then (below_then hbw1 hA) hb2
      have HF := hide hr
      clear hr d3 d4 d5
      go_wp2
      go_ret
      exact ⟨retB_false fun h => unhide HF h.2.1, hbw2⟩
  · have hbw1 : Below w.heap.size w w1 := below_then (by repeat (first | with_reducible exact Below.refl _ _ | refine Below.setCell ?_ (by first | omega | (simp <;> omega) | (simp [World.setCell] <;> omega)) _ | refine Below.alloc ?_ (by first | omega | (simp <;> omega) | (simp [World.setCell] <;> omega)) _ | refine Below.drew ?_ | refine below_draws ?_ _ | exact Below.refl _ _)) hb1
    have hst5 := store_new w1 _ (unhide HZS) _ (bodyL_len (.slice none 0 0) (.slice none 0 0) (.slice none 0 0) ⟨0, 0, 0⟩ 0 0 []) (bodyL_one _ _ _ _ rfl rfl rfl)
    have hlB := bodyL_len (.slice none 0 0) (.slice none 0 0) (.slice none 0 0) ⟨0, 0, 0⟩ 0 0 []
    have HR := hide hR
    clear hR
    unfold zeroBody bodyV
    go_wp2
    go_ret
    exact ⟨retB_false fun h => unhide HR h.1, below_then hbw1 (by repeat (first | with_reducible exact Below.refl _ _ | refine Below.setCell ?_ (by first | omega | (simp <;> omega) | (simp [World.setCell] <;> omega)) _ | refine Below.alloc ?_ (by first | omega | (simp <;> omega) | (simp [World.setCell] <;> omega)) _ | refine Below.drew ?_ | refine below_draws ?_ _ | exact Below.refl _ _))⟩

end Go.Proofs.Ytcmakcnkiekalab
