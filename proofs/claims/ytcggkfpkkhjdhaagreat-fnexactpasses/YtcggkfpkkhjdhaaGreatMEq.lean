import Derived.Test.YtcggkfpkkhjdhaaGreatRows
import Derived.Test.YtcggkfpkkhjdhaaGreatMPlain
import Derived.WalkSpells
import Derived.BigQuiet
import Derived.Deep.RegionWith
import Derived.Test.YtcggkfpkkhjdhaaGreatMTo
import Derived.Test.YtcggkfpkkhjdhaaGreatMSpec
import Derived.Test.YtcggkfpkkhjdhaaGreatMRead
namespace Go.Proofs.YtcggkfpkkhjdhaaGreat
open Go.RowKit

set_option maxHeartbeats 400000 in
theorem eqEnd_any (p s : Int) (w : World) :
    Calls Tryz.prog 145 #[.agg #[.int .i64 p, .int .i64 s], .agg #[.int .i64 p, .int .i64 s]] w fun e w' =>
      e = .returned (.bool true) ∧ Below w.heap.size w w' := by
  go_enter Tryz.func145, Tryz.ntmps145
  go_wp2
  go_ret
  exact ⟨rfl, bw0⟩

set_option maxHeartbeats 400000 in
theorem eqPiece_any (s : ByteArray) (l sp br : Int) (w : World) :
    Calls Tryz.prog 89 #[.agg #[.string s, .int .i64 l, .int .i64 sp, .int .i64 br], .agg #[.string s, .int .i64 l, .int .i64 sp, .int .i64 br]] w fun e w' =>
      e = .returned (.bool true) ∧ Below w.heap.size w w' := by
  go_enter Tryz.func89, Tryz.ntmps89
  go_wp2
  go_ret
  exact ⟨rfl, bw0⟩



set_option maxHeartbeats 1000000 in
theorem eqEndS_any (a c : Option Addr) (es : List Ed) (ca cc : Nat) (w : World) {L L' : Nat} (hl : es.length ≤ 1048576) (hp : EdsAt L w a es) (hq : EdsAt L' w c es) :
    Calls Tryz.prog 121 #[.slice a es.length ca, .slice c es.length cc] w fun e w' =>
      e = .returned (.bool true) ∧ Below w.heap.size w w' := by
  go_enter Tryz.func121, Tryz.ntmps121
  go_wp2
  go_loopw [5] (fun i wr => ∃ (k : Nat), k ≤ es.length ∧ i = .int .i64 k ∧ Below w.heap.size w wr) (fun i _ => es.length - (intOf i).toNat)
  case atStart => exact ⟨0, Nat.zero_le _, rfl, Below.refl _ _⟩
  case round =>
    obtain ⟨k, hk, rfl, hb⟩ := hrel
    by_cases hlt : k < es.length
    · obtain ⟨b, off, rfl, hbs, c0, c1⟩ := hp.below hb k hlt
      obtain ⟨b', off', rfl, hbs', c0', c1'⟩ := hq.below hb k hlt
      go_wp2_with fail
      go_region_with (go_at_call 145; refine (eqEnd_any _ _ _).mono ?_; rintro e w1 ⟨rfl, hb1⟩)
      all_goals go_wp2
      all_goals exact ⟨⟨k + 1, by omega, by go_num, below_then hb.drew hb1⟩, by simp [intOf]; omega⟩
    · go_wp2
      go_ret
      exact ⟨rfl, hb⟩

set_option maxHeartbeats 1000000 in
theorem eqPieceS_any (a c : Option Addr) (ps : List Pc) (ca cc : Nat) (w : World) {L L' : Nat} (hl : ps.length ≤ 1048576) (hp : PcsAt L w a ps) (hq : PcsAt L' w c ps) :
    Calls Tryz.prog 45 #[.slice a ps.length ca, .slice c ps.length cc] w fun e w' =>
      e = .returned (.bool true) ∧ Below w.heap.size w w' := by
  go_enter Tryz.func45, Tryz.ntmps45
  go_wp2
  go_loopw [5] (fun i wr => ∃ (k : Nat), k ≤ ps.length ∧ i = .int .i64 k ∧ Below w.heap.size w wr) (fun i _ => ps.length - (intOf i).toNat)
  case atStart => exact ⟨0, Nat.zero_le _, rfl, Below.refl _ _⟩
  case round =>
    obtain ⟨k, hk, rfl, hb⟩ := hrel
    by_cases hlt : k < ps.length
    · obtain ⟨b, off, rfl, hbs, c0, c1, c2, c3⟩ := hp.below hb k hlt
      obtain ⟨b', off', rfl, hbs', c0', c1', c2', c3'⟩ := hq.below hb k hlt
      go_wp2_with fail
      go_region_with (go_at_call 89; refine (eqPiece_any _ _ _ _ _).mono ?_; rintro e w1 ⟨rfl, hb1⟩)
      all_goals go_wp2
      all_goals exact ⟨⟨k + 1, by omega, by go_num, below_then hb.drew hb1⟩, by simp [intOf]; omega⟩
    · go_wp2
      go_ret
      exact ⟨rfl, hb⟩

set_option maxHeartbeats 1000000 in
theorem eqJoint_any (kd : Int) (s : ByteArray) (a c : Option Addr) (es : List Ed) (ca cc : Nat) (w : World) {L L' : Nat} (hl : es.length ≤ 1048576) (hp : EdsAt L w a es) (hq : EdsAt L' w c es) :
    Calls Tryz.prog 90 #[.agg #[.int .i64 kd, .string s, .slice a es.length ca], .agg #[.int .i64 kd, .string s, .slice c es.length cc]] w fun e w' =>
      e = .returned (.bool true) ∧ Below w.heap.size w w' := by
  go_enter Tryz.func90, Tryz.ntmps90
  go_wp2_with fail
  refine (eqEndS_any a c es ca cc _ hl (L := L) (L' := L') ?hA ?hB).mono ?_
  case hA => exact hp.below bw0
  case hB => exact hq.below bw0
  rintro e w1 ⟨rfl, hb1⟩
  have hbw := Below.trans (bw0 : Below w.heap.size w _) (hb1.mono (by simp <;> omega))
  go_wp2
  go_ret
  exact ⟨rfl, hbw⟩

set_option maxHeartbeats 1000000 in
theorem eqJointS_any (a c : Option Addr) (js : List Jt) (ca cc : Nat) (w : World) {L L' : Nat} (hl : js.length ≤ 1048576) (hle : ∀ i (h : i < js.length), js[i].ends.length ≤ 1048576) (hp : JtsAt L w a js) (hq : JtsAt L' w c js) :
    Calls Tryz.prog 46 #[.slice a js.length ca, .slice c js.length cc] w fun e w' =>
      e = .returned (.bool true) ∧ Below w.heap.size w w' := by
  go_enter Tryz.func46, Tryz.ntmps46
  go_wp2
  go_loopw [5] (fun i wr => ∃ (k : Nat), k ≤ js.length ∧ i = .int .i64 k ∧ Below w.heap.size w wr) (fun i _ => js.length - (intOf i).toNat)
  case atStart => exact ⟨0, Nat.zero_le _, rfl, Below.refl _ _⟩
  case round =>
    obtain ⟨k, hk, rfl, hb⟩ := hrel
    by_cases hlt : k < js.length
    · obtain ⟨b, off, ea, ec, rfl, hbs, c0, c1, c2, he⟩ := hp.below hb k hlt
      obtain ⟨b', off', ea', ec', rfl, hbs', c0', c1', c2', he'⟩ := hq.below hb k hlt
      have hle' := hle k hlt
      have HE := hide (he.below (Below.drew (Below.refl _ _)))
      have HE' := hide (he'.below (Below.drew (Below.refl _ _)))
      clear hle
      go_wp2_with fail
      go_region_with (go_at_call 90; refine (eqJoint_any _ _ _ _ _ _ _ _ hle' (unhide HE) (unhide HE')).mono ?_; rintro e w1 ⟨rfl, hb1⟩)
      all_goals go_wp2
      all_goals exact ⟨⟨k + 1, by omega, by go_num, below_then hb.drew hb1⟩, by simp [intOf]; omega⟩
    · go_wp2
      go_ret
      exact ⟨rfl, hb⟩

set_option maxHeartbeats 1000000 in
theorem eqNet_any (v v' : Value) (n : Nt) (w : World) {L L' : Nat} (hl : n.pieces.length ≤ 1048576) (hl' : n.joints.length ≤ 1048576) (hle : ∀ i (h : i < n.joints.length), n.joints[i].ends.length ≤ 1048576) (hp : NetAt L w v n) (hq : NetAt L' w v' n) :
    Calls Tryz.prog 14 #[v, v'] w fun e w' =>
      e = .returned (.bool true) ∧ Below w.heap.size w w' := by
  obtain ⟨a, c, ca, cc, rfl, hpp, hpj⟩ := hp
  obtain ⟨a', c', ca', cc', rfl, hqp, hqj⟩ := hq
  go_enter Tryz.func14, Tryz.ntmps14
  go_wp2_with fail
  refine (eqPieceS_any a a' n.pieces ca ca' _ hl (L := L) (L' := L') ?hA ?hB).mono ?_
  case hA => exact hpp.below bw0
  case hB => exact hqp.below bw0
  rintro e w1 ⟨rfl, hb1⟩
  have hbw := Below.trans (bw0 : Below w.heap.size w _) (hb1.mono (by simp <;> omega))
  obtain ⟨hc, hf⟩ := bcell hb1
  have hz := hb1.size
  simp at hz
  go_wp2_with fail
  refine (eqJointS_any c c' n.joints cc cc' _ hl' hle (L := L) (L' := L') ?hA ?hB).mono ?_
  case hA => exact hpj.below hbw
  case hB => exact hqj.below hbw
  rintro e w2 ⟨rfl, hb2⟩
  go_wp2
  go_ret
  exact ⟨rfl, below_then hbw hb2⟩
end Go.Proofs.YtcggkfpkkhjdhaaGreat

namespace Go.Proofs.YtcggkfpkkhjdhaaGreat
open Go.RowKit

/-- A slice of numbers in memory. -/
def IntsAt (L : Nat) (w : World) (a : Option Addr) (zs : List Int) : Prop :=
  ∀ i (h : i < zs.length), ∃ b off, a = some ⟨b, off, none⟩ ∧ (L ≤ b ∧ b < w.heap.size) ∧ w.cell? ⟨b, off + i, none⟩ = some (.int .i64 zs[i])

theorem IntsAt.keeps {L : Nat} {w w' : World} {a : Option Addr} {zs : List Int} (h : IntsAt L w a zs) (hk : Keeps L w w') : IntsAt L w' a zs := by
  intro i hi
  obtain ⟨b, off, ha, hlt, c0⟩ := h i hi
  exact ⟨b, off, ha, ⟨hlt.1, Nat.lt_of_lt_of_le hlt.2 hk.1⟩, by rw [hk.cell hlt]; exact c0⟩
theorem IntsAt.below {L : Nat} {w w' : World} {a : Option Addr} {zs : List Int} (h : IntsAt L w a zs) (hb : Below w.heap.size w w') : IntsAt L w' a zs := h.keeps (keeps_below L hb)

theorem info_Int : (Tryz.prog.info? 3).map (fun i => (i.zero, i.size, i.bytes)) = some (some (.int .i64 0), 1, 8) := by kernel_rfl

set_option maxHeartbeats 400000 in
theorem toIntS_any (a : Option Addr) (zs : List Int) (cap : Nat) (w : World) (hl : zs.length ≤ 1048576) {L : Nat} (hp : IntsAt L w a zs) :
    Calls Tryz.prog 9 #[.slice a zs.length cap] w fun e w' =>
      ∃ b, e = .returned (.slice (some ⟨b, 0, none⟩) zs.length zs.length) ∧ IntsAt w.heap.size w' (some ⟨b, 0, none⟩) zs ∧ Below w.heap.size w w' := by
  have hmk := run_make_rows (P := Tryz.prog) 26 3 _ 1 8 (by kernel_rfl) info_Int zs.length (by omega) hl
  go_enter Tryz.func9, Tryz.ntmps9
  go_wp2
  go_loopw [4] (fun i wr => ∃ (k : Nat) (f : Nat → Value), k ≤ zs.length ∧ i = .int .i64 k ∧ wr.rowIs w.heap.size 3 (zs.length * 1) f ∧ (∀ i (h : i < zs.length), i < k → f i = .int .i64 zs[i]) ∧ Below w.heap.size w wr) (fun i _ => zs.length - (intOf i).toNat)
  case atStart => exact ⟨0, _, Nat.zero_le _, rfl, by simpa using row_made _ _ (zs.length * 1) _, fun i h h' => by omega, (Below.refl _ _).alloc (Nat.le_refl _) _⟩
  case round =>
    obtain ⟨k, f, hk, rfl, hrow, hf, hb⟩ := hrel
    clear hmk
    by_cases hlt : k < zs.length
    · obtain ⟨b, off, rfl, hbs, c0⟩ := hp.below hb k hlt
      have z0 := hrow.frozen k
      have y0 := hrow.cell (i := k) (by omega)
      have HR := hide hrow
      clear hrow
      go_wp2
      go_roundw
      case rel =>
        refine ⟨k + 1, _, by omega, by go_num, (unhide HR).set _ _, ?_, Below.setCell hb (by simp) _⟩
        intro i h h'
        by_cases e : i = k
        · subst e
          simp
        · rw [if_neg (by omega)]
          exact hf i h (by omega)
      case measure => simp [intOf]; omega
    · obtain rfl : k = zs.length := by omega
      go_wp2
      go_ret
      refine ⟨_, rfl, fun i h => ?_, hb⟩
      exact ⟨_, 0, rfl, ⟨Nat.le_refl _, hrow.lt⟩, by rw [← hf i h h, hrow.cell (by omega)]; simp⟩

set_option maxHeartbeats 1000000 in
theorem eqIntS_any (a c : Option Addr) (zs : List Int) (ca cc : Nat) (w : World) {L L' : Nat} (hl : zs.length ≤ 1048576) (hp : IntsAt L w a zs) (hq : IntsAt L' w c zs) :
    Calls Tryz.prog 15 #[.slice a zs.length ca, .slice c zs.length cc] w fun e w' =>
      e = .returned (.bool true) ∧ Below w.heap.size w w' := by
  go_enter Tryz.func15, Tryz.ntmps15
  go_wp2
  go_loopw [5] (fun i wr => ∃ (k : Nat), k ≤ zs.length ∧ i = .int .i64 k ∧ Below w.heap.size w wr) (fun i _ => zs.length - (intOf i).toNat)
  case atStart => exact ⟨0, Nat.zero_le _, rfl, Below.refl _ _⟩
  case round =>
    obtain ⟨k, hk, rfl, hb⟩ := hrel
    by_cases hlt : k < zs.length
    · obtain ⟨b, off, rfl, hbs, c0⟩ := hp.below hb k hlt
      obtain ⟨b', off', rfl, hbs', c0'⟩ := hq.below hb k hlt
      go_wp2_with fail
      go_quiet (fail)
      go_wp2
      exact ⟨⟨k + 1, by omega, by go_num, below_draws hb _⟩, by simp [intOf]; omega⟩
    · go_wp2
      go_ret
      exact ⟨rfl, hb⟩

theorem netRes_zero {n : Nt} {a : Int} (h : NetRes n 0 a) : a = 0 ∧ ∀ i (h : i < n.joints.length), JtFits n.pieces.length n.joints[i] := by
  unfold NetRes at h
  by_cases ho : n.pieces.length = 0 ∨ 100 < n.pieces.length ∨ 120 < n.joints.length
  · have := (h.1 ho).1; omega
  · obtain ⟨r2, r3, r4, r5, h2, h2a, h2b⟩ := h.2 ho
    by_cases e2 : r2 = -1
    · obtain ⟨h3, h3a, h3b⟩ := h2b e2
      by_cases e3 : r3 = -1
      · obtain ⟨h4, h4a, h4b⟩ := h3b e3
        have hall : ∀ i (h : i < n.joints.length), JtFits n.pieces.length n.joints[i] := fun i hi => Classical.byContradiction fun hc => by
          rcases h3 with ⟨_, h3⟩ | ⟨j, _, hj, _⟩
          · exact h3 i hi ⟨hi, hc⟩
          · omega
        by_cases e4 : r4 = -1
        · obtain ⟨h5, h5a, h5b⟩ := h4b e4
          by_cases e5 : r5 = -1
          · exact ⟨(h5b e5).2, hall⟩
          · have := (h5a e5).1; omega
        · have := (h4a e4).1; omega
      · have := (h3a e3).1; omega
    · have := (h2a e2).1; omega

theorem netRes_right {n : Nt} {c a : Int} (h : NetRes n c a) : c = 0 ↔ NetRes n 0 0 :=
  ⟨fun e => by subst e; have := (netRes_zero h).1; subst this; exact h, fun g => (h.unique g).1⟩

/-- What LiesOk asks of one number. -/
def LieFit (kd lie : Int) : Prop := lie = 0 ∨ (kd = 3 ∧ (lie = 1 ∨ lie = 2))
def LiesFit (js : List Jt) (zs : List Int) : Prop := zs.length = js.length ∧ ∀ i (h : i < js.length) (h' : i < zs.length), LieFit js[i].kind zs[i]
def LiesRight (n : Nt) (zs : List Int) : Prop := NetRes n 0 0 ∧ LiesFit n.joints zs

set_option maxHeartbeats 1000000 in
theorem l1ok_any (v : Value) (n : Nt) (w : World) {L : Nat} (hv : NetAt L w v n) (hl : n.pieces.length ≤ 1048576) (hl' : n.joints.length ≤ 1048576)
    (hle : ∀ i (h : i < n.joints.length), n.joints[i].ends.length ≤ 1048576 ∧ n.joints[i].name.size ≤ maxLen) (hnm : ∀ i (h : i < n.pieces.length), n.pieces[i].name.size ≤ maxLen) :
    Calls Tryz.prog 95 #[v] w fun e w' => RetB (NetRes n 0 0) e ∧ Below w.heap.size w w' := by
  have hvv := hv
  obtain ⟨a, c, ca, cc, rfl, hp, hj⟩ := hv
  go_enter Tryz.func95, Tryz.ntmps95
  go_wp2_with fail
  refine (specNetOk_any _ n _ (L := L) ?hA hl hl' hle hnm).mono ?_
  case hA => exact hvv.below bw0
  rintro e w1 ⟨fc, fa, rfl, hres, hb1⟩
  have hbw := Below.trans (bw0 : Below w.heap.size w _) (hb1.mono (by simp <;> omega))
  have HR := hide hres
  have hsz := hbw.size
  clear hres
  go_wp2
  go_ret
  exact ⟨retB_of (by rw [← netRes_right (unhide HR)]; simp), (by repeat (first | with_reducible exact Below.refl _ _ | with_reducible exact hbw | refine bwS ?_ | refine bwA ?_ | refine Below.drew ?_ | refine below_draws ?_ _ | exact hbw | exact Below.refl _ _))⟩

set_option maxHeartbeats 1000000 in
theorem l1lies_any (v : Value) (n : Nt) (b0 : Option Addr) (zs : List Int) (cb : Nat) (w : World) {L L' : Nat} (hv : NetAt L w v n) (hz : IntsAt L' w b0 zs) (hl' : n.joints.length ≤ 1048576) :
    Calls Tryz.prog 96 #[v, .slice b0 zs.length cb] w fun e w' => RetB (LiesFit n.joints zs) e ∧ Below w.heap.size w w' := by
  obtain ⟨a, c, ca, cc, rfl, hp, hj⟩ := hv
  by_cases hlen : zs.length = n.joints.length
  · have hlb : ((zs.length : Int) != (n.joints.length : Int)) = false := by rw [hlen]; simp
    have HL := hide hlen
    clear hlen
    go_enter Tryz.func96, Tryz.ntmps96
    go_wp2_with fail
    go_loopw [15] (fun x wr => ∃ k : Nat, k ≤ zs.length ∧ x = .int .i64 k ∧ (∀ i (h : i < n.joints.length) (h' : i < zs.length), i < k → LieFit n.joints[i].kind zs[i])
      ∧ Boxed wr w.heap.size [.slice a n.pieces.length ca, .slice c n.joints.length cc] ∧ Below w.heap.size w wr) (fun x _ => zs.length - (intOf x).toNat)
    case atStart => exact ⟨0, Nat.zero_le _, rfl, fun i h h' h'' => by omega, boxed_alloc _ _ _, bw0⟩
    case round =>
      obtain ⟨k, hk, rfl, hall, hB1, hb⟩ := hrel
      have b1 := hB1.2.1 1 _ rfl
      by_cases hlt : k < zs.length
      · obtain ⟨b2, off2, rfl, hbs2, x0⟩ := hz.below hb k hlt
        have hltj : k < n.joints.length := by have := unhide HL; omega
        obtain ⟨b, off, ea, ec, rfl, hbs, c0, c1, c2, he⟩ := hj.below hb k hltj
        generalize hx : zs[k] = z at *
        generalize hy : n.joints[k].kind = kd at *
        have HX := hide hx
        have HY := hide hy
        clear hx hy
        go_wp2_with fail
        refine (l1in_any _ _ _ _).mono ?_
        rintro e w1 ⟨⟨rfl, hr⟩ | ⟨rfl, hr⟩, rfl⟩
        · cases e0 : (z != 0)
          · go_wp2
            refine ⟨⟨k + 1, by omega, by go_num, fun i h h' h'' => ?_, hB1, hb⟩, by simp [intOf]; omega⟩
            by_cases e : i = k
            · subst e
              rw [unhide HX]
              exact Or.inl (by simpa using e0)
            · exact hall i h h' (by omega)
          · cases e3 : (kd != 3)
            · go_wp2
              refine ⟨⟨k + 1, by omega, by go_num, fun i h h' h'' => ?_, hB1, hb⟩, by simp [intOf]; omega⟩
              by_cases e : i = k
              · subst e
                rw [unhide HX, unhide HY]
                simp at e0 e3
                exact Or.inr ⟨e3, by omega⟩
              · exact hall i h h' (by omega)
            · go_wp2
              go_ret
              refine ⟨retB_false fun h => ?_, hb⟩
              have := h.2 k hltj hlt
              rw [unhide HX, unhide HY] at this
              simp at e0 e3
              rcases this with h1 | ⟨h1, _⟩
              · exact e0 h1
              · exact e3 h1
        · go_wp2
          go_ret
          refine ⟨retB_false fun h => ?_, hb⟩
          have := h.2 k hltj hlt
          rw [unhide HX, unhide HY] at this
          rcases this with h1 | ⟨_, h1 | h1⟩ <;> exact hr (by omega)
      · go_wp2
        go_ret
        exact ⟨retB_true ⟨unhide HL, fun i h h' => hall i h h' (by omega)⟩, hb⟩
  · have hlb : ((zs.length : Int) != (n.joints.length : Int)) = true := by rw [bne_iff_ne]; omega
    have HL := hide hlen
    clear hlen
    go_enter Tryz.func96, Tryz.ntmps96
    go_wp2
    go_ret
    exact ⟨retB_false fun h => unhide HL h.1, bw0⟩

set_option maxHeartbeats 1000000 in
theorem specLiesOk_any (v : Value) (n : Nt) (b0 : Option Addr) (zs : List Int) (cb : Nat) (w : World) {L L' : Nat} (hv : NetAt L w v n) (hz : IntsAt L' w b0 zs) (hl : n.pieces.length ≤ 1048576) (hl' : n.joints.length ≤ 1048576)
    (hle : ∀ i (h : i < n.joints.length), n.joints[i].ends.length ≤ 1048576 ∧ n.joints[i].name.size ≤ maxLen) (hnm : ∀ i (h : i < n.pieces.length), n.pieces[i].name.size ≤ maxLen) :
    Calls Tryz.prog 55 #[v, .slice b0 zs.length cb] w fun e w' => RetB (LiesRight n zs) e ∧ Below w.heap.size w w' := by
  have hvv := hv
  obtain ⟨a, c, ca, cc, rfl, hp, hj⟩ := hv
  go_enter Tryz.func55, Tryz.ntmps55
  go_wp2_with fail
  refine (l1ok_any _ n _ (L := L) ?hA hl hl' hle hnm).mono ?_
  case hA => exact hvv.below bw0
  rintro e w1 ⟨⟨rfl, hr⟩ | ⟨rfl, hr⟩, hb1⟩
  · have hbw := Below.trans (bw0 : Below w.heap.size w _) (hb1.mono (by simp <;> omega))
    have hB1 : Boxed w1 w.heap.size [.slice a n.pieces.length ca, .slice c n.joints.length cc] := (boxed_alloc _ _ _).below hb1
    have x0 := hB1.2.1 0 _ rfl
    have x1 := hB1.2.1 1 _ rfl
    have HR := hide hr
    clear hr
    go_wp2_with fail
    refine (l1lies_any _ n _ _ _ _ (hvv.below hbw) (hz.below hbw) hl').mono ?_
    rintro e w2 ⟨⟨rfl, hr2⟩ | ⟨rfl, hr2⟩, hb2⟩
    · go_wp2
      go_ret
      exact ⟨retB_true ⟨unhide HR, hr2⟩, below_then hbw hb2⟩
    · go_wp2
      go_ret
      exact ⟨retB_false fun h => hr2 h.2, below_then hbw hb2⟩
  · have hbw := Below.trans (bw0 : Below w.heap.size w _) (hb1.mono (by simp <;> omega))
    have HR := hide hr
    clear hr
    go_wp2
    go_ret
    exact ⟨retB_false fun h => unhide HR h.1, hbw⟩
end Go.Proofs.YtcggkfpkkhjdhaaGreat

namespace Go.Proofs.YtcggkfpkkhjdhaaGreat
open Go.ChangeShapes Go.WideShapes Go.ChangeAt Go.RowKit Go.Deep

section
variable {H : Type} {enc : TypeId × Value → H} {w : World} {base : Nat} {held : Bool}

set_option maxRecDepth 100000 in
theorem readInts {fuel : Nat} {cs : List Value} {x : DataW H × List MemPlace} (h : DataW.trod enc Tryz.prog w base (fun _ => true) held fuel 26 cs = some x) :
    ∃ a cap zs, cs = [.slice a (List.length zs) cap] ∧ IntsAt 0 w a zs ∧ zs.length ≤ maxLen := by
  rcases open_slice Tryz.underlying26 h with ⟨rfl, _⟩ | ⟨a, len, cap, m, n, D, Pl, rfl, hb, hl, hm, hmm, _, hx⟩
  · exact ⟨none, 0, [], rfl, fun i h => by simp at h, by simp⟩
  · rw [cellsInt] at hx
    simp only [if_true] at hmm
    subst hmm
    have each : ∀ i, i < len → ∃ z : Int, ∃ b off, a = ⟨b, off, none⟩ ∧ b < w.heap.size ∧ w.cell? ⟨b, off + i, none⟩ = some (.int .i64 z) := by
      intro i hi
      obtain ⟨b, off, cs, ha, hblk, ht, hlen, hcell⟩ := row_cells (by omega) hx (show i < m by omega)
      match cs, hlen with
      | [v0], _ =>
        obtain ⟨p, e0, _, _⟩ := DataW.trod_int uInt ht
        simp at e0
        subst e0
        exact ⟨p, b, off, ha, hblk, by simpa using hcell 0 (by omega)⟩
    obtain ⟨f, hf⟩ := choose_lt each
    refine ⟨some a, m, (List.range len).map f, by simp, fun i hi => ?_, by simp; omega⟩
    have hi' : i < len := by simpa using hi
    obtain ⟨b, off, ha, hblk, r0⟩ := hf i hi'
    exact ⟨b, off, by rw [ha], ⟨Nat.zero_le _, hblk⟩, by simpa using r0⟩

set_option maxRecDepth 100000 in
theorem readIntsV {r : Reach} {b0 : Nat} {v : Value} {d : DataW H} {p : List MemPlace} (hv : Value.okWide Tryz.prog w r b0 26 v) (h : DataW.Trod enc Tryz.prog w base (fun _ => true) held 26 v d p) :
    ∃ a cap zs, v = .slice a (List.length zs) cap ∧ IntsAt 0 w a zs ∧ zs.length ≤ maxLen := by
  obtain ⟨a0, len0, cap0, rfl⟩ := okWide_slice Tryz.underlying26 hv
  obtain ⟨fuel, hf⟩ := h
  obtain ⟨a, cap, zs, hcs, hz, hl⟩ := readInts hf
  simp [Value.cells] at hcs
  obtain ⟨rfl, rfl, rfl⟩ := hcs
  exact ⟨a0, cap0, zs, rfl, hz, hl⟩
end
end Go.Proofs.YtcggkfpkkhjdhaaGreat

