import Derived.Test.YteakpnmjdijfbaaLies1
import Derived.Test.YteakpnmjdijfbaaImpl7
namespace Go.Proofs.Yteakpnmjdijfbaa
open Go.RowKit

set_option maxHeartbeats 1000000 in
theorem implLiesOk_any (v : Value) (n : Nt) (b0 : Option Addr) (zs : List Int) (cb : Nat) (w : World) {L L' : Nat} (hv : NetAt L w v n) (hz : IntsAt L' w b0 zs) (hl : n.pieces.length ≤ 1048576) (hl' : n.joints.length ≤ 1048576)
    (hle : ∀ i (h : i < n.joints.length), n.joints[i].name.size ≤ maxLen) (hnm : ∀ i (h : i < n.pieces.length), n.pieces[i].name.size ≤ maxLen) :
    Calls Try.prog 16 #[v, .slice b0 zs.length cb] w fun e w' => RetB (LiesRight n zs) e ∧ Below w.heap.size w w' := by
  have hvv := hv
  obtain ⟨a, c, ca, cc, rfl, hp, hj⟩ := hv
  go_enter Try.func16, Try.ntmps16
  go_wp2_with fail
  refine (implNetOk_any _ n _ (L := L) ?hA hl hl' hle hnm).mono ?_
  case hA => exact hvv.below (by repeat (first | exact Below.refl _ _ | refine Below.setCell ?_ (by first | omega | (simp <;> omega) | (simp [World.setCell] <;> omega)) _ | refine Below.alloc ?_ (by first | omega | (simp <;> omega) | (simp [World.setCell] <;> omega)) _ | refine Below.drew ?_ | refine below_draws ?_ _))
  rintro e w1 ⟨fc, fa, rfl, hres, hb1⟩
  have hbw := Below.trans ((by repeat (first | exact Below.refl _ _ | refine Below.setCell ?_ (by first | omega | (simp <;> omega) | (simp [World.setCell] <;> omega)) _ | refine Below.alloc ?_ (by first | omega | (simp <;> omega) | (simp [World.setCell] <;> omega)) _ | refine Below.drew ?_ | refine below_draws ?_ _)) : Below w.heap.size w _) (hb1.mono (by simp <;> omega))
  have hB1 : Boxed w1 w.heap.size [.slice a n.pieces.length ca, .slice c n.joints.length cc] := (boxed_alloc _ _ _).below hb1
  have x1 := hB1.2.1 1 _ rfl
  by_cases hc : fc = 0
  · subst hc
    obtain ⟨rfl, hJ⟩ := netRes_zero hres
    have HR := hide hres
    have HJ := hide hJ
    clear hres hJ
    by_cases hlen : zs.length = n.joints.length
    · have hlb : ((zs.length : Int) != (n.joints.length : Int)) = false := by rw [hlen]; simp
      have HL := hide hlen
      clear hlen
      go_wp2_with fail
      go_loopw [23] (fun x wr => ∃ k : Nat, k ≤ zs.length ∧ x = .int .i64 k ∧ (∀ i (h : i < n.joints.length) (h' : i < zs.length), i < k → LieFit n.joints[i].kind zs[i])
        ∧ Boxed wr w.heap.size [.slice a n.pieces.length ca, .slice c n.joints.length cc] ∧ Below w.heap.size w wr) (fun x _ => zs.length - (intOf x).toNat)
      case atStart => exact ⟨0, Nat.zero_le _, rfl, fun i h h' h'' => by omega, hB1, hbw⟩
      case round =>
        clear hB1 x1
        obtain ⟨k, hk, rfl, hall, hB1, hb⟩ := hrel
        have x1 := hB1.2.1 1 _ rfl
        by_cases hlt : k < zs.length
        · obtain ⟨b2, off2, rfl, hbs2, x0⟩ := hz.below hb k hlt
          have hltj : k < n.joints.length := by have := unhide HL; omega
          obtain ⟨b, off, ea, ec, rfl, hbs, c0, c1, c2, he⟩ := hj.below hb k hltj
          have hK : KindOk n.joints[k].kind n.joints[k].ends := ((fits_iff _ _).1 (unhide HJ k hltj)).1
          go_wp2_with fail
          refine (shapeOf_any _ _ _ _ _ _ he hK).mono ?_
          rintro e w2 ⟨sv, rfl, hsv, hb2⟩
          go_wp2_with fail
          refine (lieFits_any _ _ _ _ _ hsv).mono ?_
          rintro e w3 ⟨⟨rfl, hr⟩ | ⟨rfl, hr⟩, hb3⟩
          · have hb3' := below_then hb2 hb3
            have HRR := hide hr
            clear hr
            go_wp2
            refine ⟨⟨k + 1, by omega, by go_num, fun i h h' h'' => ?_, hB1.below hb3', below_then hb hb3'⟩, by simp [intOf]; omega⟩
            by_cases e : i = k
            · subst e
              exact unhide HRR
            · exact hall i h h' (by omega)
          · have hb3' := below_then hb2 hb3
            have HRR := hide hr
            clear hr
            go_wp2
            go_ret
            exact ⟨retB_false fun h => unhide HRR (h.2.2 k hltj hlt), below_then hb hb3'⟩
        · go_wp2
          go_ret
          exact ⟨retB_true ⟨unhide HR, unhide HL, fun i h h' => hall i h h' (by omega)⟩, hb⟩
    · have hlb : ((zs.length : Int) != (n.joints.length : Int)) = true := by rw [bne_iff_ne]; omega
      have HL := hide hlen
      clear hlen
      go_wp2
      go_ret
      exact ⟨retB_false fun h => unhide HL h.2.1, hbw⟩
  · have hcb : (fc == 0) = false := ne_beq hc
    have HN : Hid (¬ NetRes n 0 0) := fun h => hc ((netRes_right hres).2 h)
    clear hres hc
    go_wp2
    all_goals go_ret
    all_goals exact ⟨retB_false fun h => unhide HN h.1, hbw⟩
end Go.Proofs.Yteakpnmjdijfbaa
