import Derived.Test.YtbdggfpfpjijoaaGreatDoorRows
import Derived.Test.YtbdggfpfpjijoaaGreatDoorMPlain
import Derived.WalkSpells
import Derived.BigQuiet
import Derived.Deep.RegionWith
import Derived.Test.YtbdggfpfpjijoaaGreatDoorMTo
import Derived.Test.YtbdggfpfpjijoaaGreatDoorMSpec
namespace Go.Proofs.YtbdggfpfpjijoaaGreatDoor
open Go.RowKit

end Go.Proofs.YtbdggfpfpjijoaaGreatDoor
namespace Go.Proofs.YtbdggfpfpjijoaaGreatDoor
open Go.RowKit

def IntsAt (L : Nat) (w : World) (a : Option Addr) (zs : List Int) : Prop :=
 ∀ i (h : i < zs.length), ∃ b off, a = some ⟨b, off, none⟩ ∧ (L ≤ b ∧ b < w.heap.size) ∧ w.cell? ⟨b, off + i, none⟩ = some (.int .i64 zs[i])

theorem IntsAt.keeps {L : Nat} {w w' : World} {a : Option Addr} {zs : List Int} (h : IntsAt L w a zs) (hk : Keeps L w w') : IntsAt L w' a zs := by
 intro i hi
 obtain ⟨b, off, ha, hlt, c0⟩ := h i hi
 exact ⟨b, off, ha, ⟨hlt.1, Nat.lt_of_lt_of_le hlt.2 hk.1⟩, by rw [hk.cell hlt]; exact c0⟩
theorem IntsAt.below {L : Nat} {w w' : World} {a : Option Addr} {zs : List Int} (h : IntsAt L w a zs) (hb : Below w.heap.size w w') : IntsAt L w' a zs := h.keeps (keeps_below L hb)

theorem info_Int : (Tryz.prog.info? 3).map (fun i => (i.zero, i.size, i.bytes)) = some (some (.int .i64 0), 1, 8) := by kernel_rfl

theorem netRes_zero {n : Nt} {a : Int} (h : NetRes n 0 a) : a = 0 ∧ ∀ i (h : i < n.joints.length), JtFits n.pieces.length n.joints[i] := by
 unfold NetRes at h
 by_cases ho : n.pieces.length = 0 ∨ 100 < n.pieces.length ∨ 120 < n.joints.length
 ·have := (h.1 ho).1; omega
 ·obtain ⟨r2, r3, r4, r5, h2, h2a, h2b⟩ := h.2 ho
  by_cases e2 : r2 = -1
  ·obtain ⟨h3, h3a, h3b⟩ := h2b e2
   by_cases e3 : r3 = -1
   ·obtain ⟨h4, h4a, h4b⟩ := h3b e3
    have hall : ∀ i (h : i < n.joints.length), JtFits n.pieces.length n.joints[i] := fun i hi => Classical.byContradiction fun hc => by
     rcases h3 with ⟨_, h3⟩ | ⟨j, _, hj, _⟩
     ·exact h3 i hi ⟨hi, hc⟩
     ·omega
    by_cases e4 : r4 = -1
    ·obtain ⟨h5, h5a, h5b⟩ := h4b e4
     by_cases e5 : r5 = -1
     ·exact ⟨(h5b e5).2, hall⟩
     ·have := (h5a e5).1; omega
    ·have := (h4a e4).1; omega
   ·have := (h3a e3).1; omega
  ·have := (h2a e2).1; omega

theorem netRes_right {n : Nt} {c a : Int} (h : NetRes n c a) : c = 0 ↔ NetRes n 0 0 :=
 ⟨fun e => by subst e; have := (netRes_zero h).1; subst this; exact h, fun g => (h.unique g).1⟩

def LieFit (kd lie : Int) : Prop := lie = 0 ∨ (kd = 3 ∧ (lie = 1 ∨ lie = 2))
def LiesFit (js : List Jt) (zs : List Int) : Prop := zs.length = js.length ∧ ∀ i (h : i < js.length) (h' : i < zs.length), LieFit js[i].kind zs[i]
def LiesRight (n : Nt) (zs : List Int) : Prop := NetRes n 0 0 ∧ LiesFit n.joints zs

set_option maxHeartbeats 1000000 in
theorem l1ok_any (v : Value) (n : Nt) (w : World) {L : Nat} (hv : NetAt L w v n) (hl : n.pieces.length ≤ 1048576) (hl' : n.joints.length ≤ 1048576)
  (hle : ∀ i (h : i < n.joints.length), n.joints[i].ends.length ≤ 1048576 ∧ n.joints[i].name.size ≤ maxLen) (hnm : ∀ i (h : i < n.pieces.length), n.pieces[i].name.size ≤ maxLen) :
  Calls Tryz.prog 79 #[v] w fun e w' => RetB (NetRes n 0 0) e ∧ Below w.heap.size w w' := by
 have hvv := hv
 obtain ⟨a, c, ca, cc, rfl, hp, hj⟩ := hv
 go_enter Tryz.func79, Tryz.ntmps79
 go_wp2_with fail
 refine (specNetOk_any _ n _ (L := L) ?hA hl hl' hle hnm).mono ?_
 case hA => exact hvv.below bw0
 rintro e w1 ⟨fc, fa, rfl, hres, hb1⟩
 have hbw := Below.trans (bw0 : Below w.heap.size w _) (hb1.mono (by simp <;> omega))
 have HR := hide hres
 have hsz := hbw.size
 clear hres
 go_wp2
 go_ret
 exact ⟨retB_of (by rw [← netRes_right (unhide HR)]; simp), (bw1 hbw)⟩

set_option maxHeartbeats 1000000 in
theorem l1lies_any (v : Value) (n : Nt) (b0 : Option Addr) (zs : List Int) (cb : Nat) (w : World) {L L' : Nat} (hv : NetAt L w v n) (hz : IntsAt L' w b0 zs) (hl' : n.joints.length ≤ 1048576) :
  Calls Tryz.prog 81 #[v, .slice b0 zs.length cb] w fun e w' => RetB (LiesFit n.joints zs) e ∧ Below w.heap.size w w' := by
 obtain ⟨a, c, ca, cc, rfl, hp, hj⟩ := hv
 by_cases hlen : zs.length = n.joints.length
 ·have hlb : ((zs.length : Int) != (n.joints.length : Int)) = false := by rw [hlen]; simp
  have HL := hide hlen
  clear hlen
  go_enter Tryz.func81, Tryz.ntmps81
  go_wp2_with fail
  go_loopw [15] (fun x wr => ∃ k : Nat, k ≤ zs.length ∧ x = .int .i64 k ∧ (∀ i (h : i < n.joints.length) (h' : i < zs.length), i < k → LieFit n.joints[i].kind zs[i])
   ∧ Boxed wr w.heap.size [.slice a n.pieces.length ca, .slice c n.joints.length cc] ∧ Below w.heap.size w wr) (fun x _ => zs.length - (intOf x).toNat)
  case atStart => exact ⟨0, Nat.zero_le _, rfl, fun i h h' h'' => by omega, boxed_alloc _ _ _, bw0⟩
  case round =>
   obtain ⟨k, hk, rfl, hall, hB1, hb⟩ := hrel
   have b1 := hB1.2.1 1 _ rfl
   by_cases hlt : k < zs.length
   ·obtain ⟨b2, off2, rfl, hbs2, x0⟩ := hz.below hb k hlt
    have hltj : k < n.joints.length := by have := unhide HL; omega
    obtain ⟨b, off, ea, ec, rfl, hbs, c0, c1, c2, he⟩ := hj.below hb k hltj
    generalize hx : zs[k] = z at *
    generalize hy : n.joints[k].kind = kd at *
    have HX := hide hx
    have HY := hide hy
    clear hx hy
    go_wp2_with fail
    refine (l1in_any _ _ _ _).mono ?_
    rintro e w1 ⟨⟨rfl, hr⟩ | ⟨rfl, hr⟩, rfl⟩
    ·cases e0 : (z != 0)
     ·go_wp2
      refine ⟨⟨k + 1, by omega, by go_num, fun i h h' h'' => ?_, hB1, hb⟩, by simp [intOf]; omega⟩
      by_cases e : i = k
      ·subst e
       rw [unhide HX]
       exact Or.inl (by simpa using e0)
      ·exact hall i h h' (by omega)
     ·cases e3 : (kd != 3)
      ·go_wp2
       refine ⟨⟨k + 1, by omega, by go_num, fun i h h' h'' => ?_, hB1, hb⟩, by simp [intOf]; omega⟩
       by_cases e : i = k
       ·subst e
        rw [unhide HX, unhide HY]
        simp at e0 e3
        exact Or.inr ⟨e3, by omega⟩
       ·exact hall i h h' (by omega)
      ·go_wp2
       go_ret
       refine ⟨retB_false fun h => ?_, hb⟩
       have := h.2 k hltj hlt
       rw [unhide HX, unhide HY] at this
       simp at e0 e3
       rcases this with h1 | ⟨h1, _⟩
       ·exact e0 h1
       ·exact e3 h1
    ·go_wp2
     go_ret
     refine ⟨retB_false fun h => ?_, hb⟩
     have := h.2 k hltj hlt
     rw [unhide HX, unhide HY] at this
     rcases this with h1 | ⟨_, h1 | h1⟩ <;> exact hr (by omega)
   ·go_wp2
    go_ret
    exact ⟨retB_true ⟨unhide HL, fun i h h' => hall i h h' (by omega)⟩, hb⟩
 ·have hlb : ((zs.length : Int) != (n.joints.length : Int)) = true := by rw [bne_iff_ne]; omega
  have HL := hide hlen
  clear hlen
  go_enter Tryz.func81, Tryz.ntmps81
  go_wp2
  go_ret
  exact ⟨retB_false fun h => unhide HL h.1, bw0⟩

set_option maxHeartbeats 1000000 in
theorem specLiesOk_any (v : Value) (n : Nt) (b0 : Option Addr) (zs : List Int) (cb : Nat) (w : World) {L L' : Nat} (hv : NetAt L w v n) (hz : IntsAt L' w b0 zs) (hl : n.pieces.length ≤ 1048576) (hl' : n.joints.length ≤ 1048576)
  (hle : ∀ i (h : i < n.joints.length), n.joints[i].ends.length ≤ 1048576 ∧ n.joints[i].name.size ≤ maxLen) (hnm : ∀ i (h : i < n.pieces.length), n.pieces[i].name.size ≤ maxLen) :
  Calls Tryz.prog 32 #[v, .slice b0 zs.length cb] w fun e w' => RetB (LiesRight n zs) e ∧ Below w.heap.size w w' := by
 have hvv := hv
 obtain ⟨a, c, ca, cc, rfl, hp, hj⟩ := hv
 go_enter Tryz.func32, Tryz.ntmps32
 go_wp2_with fail
 refine (l1ok_any _ n _ (L := L) ?hA hl hl' hle hnm).mono ?_
 case hA => exact hvv.below bw0
 rintro e w1 ⟨⟨rfl, hr⟩ | ⟨rfl, hr⟩, hb1⟩
 ·have hbw := Below.trans (bw0 : Below w.heap.size w _) (hb1.mono (by simp <;> omega))
  have hB1 : Boxed w1 w.heap.size [.slice a n.pieces.length ca, .slice c n.joints.length cc] := (boxed_alloc _ _ _).below hb1
  have x0 := hB1.2.1 0 _ rfl
  have x1 := hB1.2.1 1 _ rfl
  have HR := hide hr
  clear hr
  go_wp2_with fail
  refine (l1lies_any _ n _ _ _ _ (hvv.below hbw) (hz.below hbw) hl').mono ?_
  rintro e w2 ⟨⟨rfl, hr2⟩ | ⟨rfl, hr2⟩, hb2⟩
  ·go_wp2
   go_ret
   exact ⟨retB_true ⟨unhide HR, hr2⟩, below_then hbw hb2⟩
  ·go_wp2
   go_ret
   exact ⟨retB_false fun h => hr2 h.2, below_then hbw hb2⟩
 ·have hbw := Below.trans (bw0 : Below w.heap.size w _) (hb1.mono (by simp <;> omega))
  have HR := hide hr
  clear hr
  go_wp2
  go_ret
  exact ⟨retB_false fun h => unhide HR h.1, hbw⟩
end Go.Proofs.YtbdggfpfpjijoaaGreatDoor

