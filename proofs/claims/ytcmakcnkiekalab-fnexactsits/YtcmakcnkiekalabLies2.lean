import Derived.Test.YtcmakcnkiekalabLies1
import Derived.Test.YtcmakcnkiekalabKt1
namespace Go.Proofs.Ytcmakcnkiekalab
open Go.RowKit

set_option maxHeartbeats 1000000 in
theorem liesFit_any (kv : Value) (n : Nt) (b0 : Option Addr) (zs : List Int) (cb : Nat) (w : World) {L L' : Nat} (hk : TrkAt L w kv n) (hz : IntsAt L' w b0 zs) (hl' : n.joints.length ≤ 1048576) :
    Calls Try.prog 61 #[kv, .slice b0 zs.length cb] w fun e w' => RetB (LiesFit n.joints zs) e ∧ Below w.heap.size w w' := by
  obtain ⟨a, ca, sh, csh, st, cst, rfl, hp, hsh, hsd⟩ := hk
  by_cases hlen : zs.length = n.joints.length
  · have hlb : ((zs.length : Int) != (n.joints.length : Int)) = false := by rw [hlen]; simp
    have HL := hide hlen
    clear hlen
    go_enter Try.func61, Try.ntmps61
    go_wp2_with fail
    go_loopw [15] (fun x wr => ∃ k : Nat, k ≤ zs.length ∧ x = .int .i64 k ∧ (∀ i (h : i < n.joints.length) (h' : i < zs.length), i < k → LieFit n.joints[i].kind zs[i])
      ∧ Boxed wr w.heap.size [.slice a n.pieces.length ca, .slice sh n.joints.length csh, .slice st n.pieces.length cst] ∧ Below w.heap.size w wr) (fun x _ => zs.length - (intOf x).toNat)
    case atStart => exact ⟨0, Nat.zero_le _, rfl, fun i h h' h'' => by omega, boxed_alloc _ _ _, (by repeat (first | with_reducible exact Below.refl _ _ | refine Below.setCell ?_ (by first | omega | (simp <;> omega) | (simp [World.setCell] <;> omega)) _ | refine Below.alloc ?_ (by first | omega | (simp <;> omega) | (simp [World.setCell] <;> omega)) _ | refine Below.drew ?_ | refine below_draws ?_ _ | exact Below.refl _ _))⟩
    case round =>
      obtain ⟨k, hk, rfl, hall, hB1, hb⟩ := hrel
      have x1 := hB1.2.1 1 _ rfl
      by_cases hlt : k < zs.length
      · obtain ⟨b2, off2, rfl, hbs2, x0⟩ := hz.below hb k hlt
        have hltj : k < n.joints.length := by have := unhide HL; omega
        obtain ⟨b, off, sv, rfl, hbs, c0, hsv⟩ := (hsh.keeps (keeps_below _ hb)) k hltj
        have HSV := hide hsv
        clear hsv
        go_wp2_with fail
        refine (lieFits_any _ _ _ _ _ (unhide HSV)).mono ?_
        rintro e w3 ⟨⟨rfl, hr⟩ | ⟨rfl, hr⟩, hb3⟩
        · have HRR := hide hr
          clear hr
          go_wp2
          refine ⟨⟨k + 1, by omega, by go_num, fun i h h' h'' => ?_, hB1.below hb3, below_then hb hb3⟩, by simp [intOf]; omega⟩
          by_cases e : i = k
          · subst e
            exact unhide HRR
          · exact hall i h h' (by omega)
        · have HRR := hide hr
          clear hr
          go_wp2
          go_ret
          exact ⟨retB_false fun h => unhide HRR (h.2 k hltj hlt), below_then hb hb3⟩
      · go_wp2
        go_ret
        exact ⟨retB_true ⟨unhide HL, fun i h h' => hall i h h' (by omega)⟩, hb⟩
  · have hlb : ((zs.length : Int) != (n.joints.length : Int)) = true := by rw [bne_iff_ne]; omega
    have HL := hide hlen
    clear hlen
    go_enter Try.func61, Try.ntmps61
    go_wp2
    go_ret
    exact ⟨retB_false fun h => unhide HL h.1, (by repeat (first | with_reducible exact Below.refl _ _ | refine Below.setCell ?_ (by first | omega | (simp <;> omega) | (simp [World.setCell] <;> omega)) _ | refine Below.alloc ?_ (by first | omega | (simp <;> omega) | (simp [World.setCell] <;> omega)) _ | refine Below.drew ?_ | refine below_draws ?_ _ | exact Below.refl _ _))⟩

end Go.Proofs.Ytcmakcnkiekalab