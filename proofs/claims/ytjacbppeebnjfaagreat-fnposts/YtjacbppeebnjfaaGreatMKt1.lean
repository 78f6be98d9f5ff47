import Derived.Test.YtjacbppeebnjfaaGreatMSpec4
import Derived.Test.YtjacbppeebnjfaaGreatMImpl6
import Derived.Deep.DeepCutAuto
import Derived.Test.YtjacbppeebnjfaaGreatMEq
namespace Go.Proofs.YtjacbppeebnjfaaGreat
open Go.RowKit

def ShsAt (L : Nat) (w : World) (a : Option Addr) (js : List Jt) : Prop :=
 ∀ i (h : i < js.length), ∃ b off v, a = some ⟨b, off, none⟩ ∧ (L ≤ b ∧ b < w.heap.size) ∧ w.cell? ⟨b, off + i, none⟩ = some v ∧ ShV v js[i].kind js[i].ends
def SdsAt (L : Nat) (w : World) (a : Option Addr) (n : Nt) : Prop :=
 ∀ p, p < n.pieces.length → ∃ b off, a = some ⟨b, off, none⟩ ∧ (L ≤ b ∧ b < w.heap.size) ∧ ∀ s, s ≤ 1 → ∃ i k : Nat, w.cell? ⟨b, off + p * 2 + s, none⟩ = some (.int .i64 i) ∧ StandsAt n.joints ⟨p, s⟩ i k
def TrkAt (L : Nat) (w : World) (v : Value) (n : Nt) : Prop :=
 ∃ a ca sh csh st cst, v = .agg #[.slice a n.pieces.length ca, .slice sh n.joints.length csh, .slice st n.pieces.length cst] ∧ PcsAt L w a n.pieces ∧ ShsAt L w sh n.joints ∧ SdsAt L w st n

theorem ShsAt.keeps {L : Nat} {w w' : World} {a : Option Addr} {js : List Jt} (h : ShsAt L w a js) (hk : Keeps L w w') : ShsAt L w' a js := by
 intro i hi
 obtain ⟨b, off, v, ha, hlt, c0, hv⟩ := h i hi
 exact ⟨b, off, v, ha, ⟨hlt.1, Nat.lt_of_lt_of_le hlt.2 hk.1⟩, by rw [hk.cell hlt]; exact c0, hv⟩
theorem SdsAt.keeps {L : Nat} {w w' : World} {a : Option Addr} {n : Nt} (h : SdsAt L w a n) (hk : Keeps L w w') : SdsAt L w' a n := by
 intro p hp
 obtain ⟨b, off, ha, hlt, hc⟩ := h p hp
 exact ⟨b, off, ha, ⟨hlt.1, Nat.lt_of_lt_of_le hlt.2 hk.1⟩, fun s hs => by
  obtain ⟨i, k, c, r⟩ := hc s hs
  exact ⟨i, k, by rw [hk.cell hlt]; exact c, r⟩⟩
theorem TrkAt.keeps {L : Nat} {w w' : World} {v : Value} {n : Nt} (h : TrkAt L w v n) (hk : Keeps L w w') : TrkAt L w' v n := by
 obtain ⟨a, ca, sh, csh, st, cst, hv, h1, h2, h3⟩ := h
 exact ⟨a, ca, sh, csh, st, cst, hv, h1.keeps hk, h2.keeps hk, h3.keeps hk⟩
theorem TrkAt.below {L : Nat} {w w' : World} {v : Value} {n : Nt} (h : TrkAt L w v n) (hb : Below w.heap.size w w') : TrkAt L w' v n := h.keeps (keeps_below L hb)

theorem info_shape : (Tryz.prog.info? 167).map (fun i => (i.zero, i.size, i.bytes)) = some (some .nilIface, 1, 16) := by kernel_rfl

def ShsOf (svs : List Value) (js : List Jt) (k : Nat) : Prop := svs.length = k ∧ ∀ i (h : i < js.length) (h' : i < svs.length), ShV svs[i] js[i].kind js[i].ends
def SdsOf (f : Nat → Value) (js : List Jt) (k m : Nat) : Prop := ∀ q j m', StandsAt js ⟨(q / 2 : Nat), (q % 2 : Nat)⟩ j m' → (j < k ∨ j = k ∧ m' < m) → f q = .int .i64 j

theorem SdsOf.step {f : Nat → Value} {js : List Jt} {k m pn sn : Nat} (h : SdsOf f js k m) (hst : StandsAt js ⟨pn, sn⟩ k m) (hs : sn ≤ 1) (hu : uses js pn sn = 1) : SdsOf (fun q => if q = pn * 2 + sn then .int .i64 k else f q) js k (m + 1) := by
 intro q j m' hq hj
 dsimp only
 by_cases e : q = pn * 2 + sn
 ·rw [if_pos e]
  have h1 : q / 2 = pn := by omega
  have h2 : q % 2 = sn := by omega
  rw [h1, h2] at hq
  rw [(stands_unique hu hq hst).1]
 ·rw [if_neg e]
  refine h q j m' hq ?_
  rcases hj with hj | ⟨rfl, hj⟩
  ·exact Or.inl hj
  ·refine Or.inr ⟨rfl, ?_⟩
   by_cases em : m' = m
   ·subst em
    obtain ⟨_, _, h1⟩ := hq
    obtain ⟨_, _, h2⟩ := hst
    rw [h1] at h2
    simp at h2
    omega
   ·omega

theorem SdsOf.next {f : Nat → Value} {js : List Jt} {k : Nat} {m : Nat} (h : SdsOf f js k m) (hk : k < js.length) (hm : js[k].ends.length ≤ m) : SdsOf f js (k + 1) 0 := by
 intro q j m' hq hj
 refine h q j m' hq ?_
 rcases hj with hj | ⟨_, hj⟩
 ·by_cases e : j = k
  ·subst e
   obtain ⟨_, h1, _⟩ := hq
   exact Or.inr ⟨rfl, by omega⟩
  ·exact Or.inl (by omega)
 ·omega

theorem ShsOf.snoc {svs : List Value} {js : List Jt} {k : Nat} (h : ShsOf svs js k) (hk : k < js.length) {sv : Value} (hs : ShV sv js[k].kind js[k].ends) : ShsOf (svs ++ [sv]) js (k + 1) := by
 obtain ⟨rfl, h⟩ := h
 refine ⟨by simp, fun i hi hi' => ?_⟩
 by_cases e : i = svs.length
 ·subst e
  simpa using hs
 ·have : i < svs.length := by simp at hi'; omega
  rw [List.getElem_append_left this]
  exact h i hi this

theorem ShV.one {v : Value} {kd : Int} {es : List Ed} (h : ShV v kd es) : v.oneCell' = true := by
 rcases h with ⟨a, _, _, rfl⟩ | ⟨a, b, _, _, rfl⟩ | ⟨a, b, c, _, _, rfl⟩ | ⟨a, b, c, d, _, _, rfl⟩ <;> rfl

theorem Boxed.drew {w : World} {N : Nat} {vs : List Value} (h : Boxed w N vs) : Boxed w.drew N vs := h.below (Below.drew (Below.refl _ _))
theorem Boxed.alloc {w : World} {N : Nat} {vs : List Value} (h : Boxed w N vs) (o : Obj) : Boxed (w.alloc o) N vs := h.below (Below.alloc (Below.refl _ _) (Nat.le_refl _) _)
theorem Boxed.apart {w : World} {N : Nat} {vs : List Value} (h : Boxed w N vs) {p : Addr} (hp : N ≠ p.block) (v : Value) : Boxed (w.setCell p v) N vs := by
 have hk := Below.heap_setCell w p v N hp
 exact ⟨by simpa [World.setCell] using h.1, fun i x hi => (World.cell?_of_block (w := w) (a := ⟨N, i, none⟩) hk).trans (h.2.1 i x hi), fun i => (World.frozen?_of_block (w := w) (a := ⟨N, i, none⟩) hk).trans (h.2.2 i)⟩
theorem Boxed.grown {w w' : World} {N : Nat} {vs : List Value} {row : Option Nat} (h : Boxed w N vs) (hg : w.grownBy w' row) (hne : some N ≠ row) : Boxed w' N vs := by
 have hk := hg.block N h.1 hne
 exact ⟨Nat.lt_of_lt_of_le h.1 hg.size, fun i v hi => by rw [World.cell?_of_block (w := w) (a := ⟨N, i, none⟩) hk]; exact h.2.1 i v hi, fun i => by rw [World.frozen?_of_block (w := w) (a := ⟨N, i, none⟩) hk]; exact h.2.2 i⟩
theorem below_grown {B : Nat} {a w w' : World} {row : Option Nat} (h : Below B a w) (hg : w.grownBy w' row) (hr : ∀ k, row = some k → B ≤ k) (hB : B ≤ w.heap.size) : Below B a w' :=
 ⟨hg.os.trans h.os, hg.tape.trans h.tape, hg.output.trans h.output, Nat.le_trans h.size hg.size, fun k hk => (hg.block k (by omega) (fun e => by have := hr k e.symm; omega)).trans (h.block k hk)⟩
theorem Boxed.set3 {w : World} {N : Nat} {a b c : Value} (h : Boxed w N [a, b, c]) (x : Value) : Boxed (w.setCell ⟨N, 1, none⟩ x) N [a, x, c] := by
 have h0 := h.2.1 0 _ rfl
 have h1 := h.2.1 1 _ rfl
 have h2 := h.2.1 2 _ rfl
 refine ⟨by simpa [World.setCell] using h.1, fun i v hi => ?_, fun i => by simpa using h.2.2 i⟩
 match i, hi with
 | 0, hi => rw [World.cell?_setCell_other _ _ _ _ (by simp), h0]; simpa using hi
 | 1, hi => rw [World.cell?_setCell_same _ _ _ h1]; simpa using hi
 | 2, hi => rw [World.cell?_setCell_other _ _ _ _ (by simp), h2]; simpa using hi

theorem own_set {w : World} {base e size m : Nat} {v : Value} {xs : List Value} (h : w.ownsRow base e size v m xs) {p : Addr} (hp : p.block < base) (x : Value) : (w.setCell p x).ownsRow base e size v m xs :=
 h.kept (row := some p.block) ⟨rfl, rfl, rfl, by simp [World.setCell], fun k _ hne => Below.heap_setCell w p x k (fun e => hne (by rw [e]))⟩ (by
  cases hv : v.ownBlock with
  | none => exact Or.inl rfl
  | some g => exact Or.inr (fun e => by have := (h.lt g hv).1; simp at e; omega))
theorem own_slice {w : World} {base e size m : Nat} {v : Value} {xs : List Value} (h : w.ownsRow base e size v m xs) : ∃ a c, v = .slice a m c := by
 rcases h.2 with ⟨rfl, rfl⟩ | ⟨g, cap, cur, rfl, _⟩
 ·exact ⟨none, 0, rfl⟩
 ·exact ⟨_, cap, rfl⟩
theorem own_apart {w : World} {base e size m N : Nat} {v : Value} {xs : List Value} (h : w.ownsRow base e size v m xs) (hN : N < base) : some N ≠ v.ownBlock := fun hv => by
 have := (h.lt N hv.symm).1
 omega
theorem ShsAt.mono {L L' : Nat} {w : World} {a : Option Addr} {js : List Jt} (h : ShsAt L w a js) (hL : L' ≤ L) : ShsAt L' w a js := by
 intro i hi
 obtain ⟨b, off, v, ha, hlt, r⟩ := h i hi
 exact ⟨b, off, v, ha, ⟨Nat.le_trans hL hlt.1, hlt.2⟩, r⟩
theorem SdsAt.mono {L L' : Nat} {w : World} {a : Option Addr} {n : Nt} (h : SdsAt L w a n) (hL : L' ≤ L) : SdsAt L' w a n := by
 intro p hp
 obtain ⟨b, off, ha, hlt, r⟩ := h p hp
 exact ⟨b, off, ha, ⟨Nat.le_trans hL hlt.1, hlt.2⟩, r⟩
theorem shsAt_of_own {w : World} {base : Nat} {v : Value} {svs : List Value} {js : List Jt} (h : w.ownsRow base 167 1 v js.length svs) (hs : ShsOf svs js js.length) : ∃ a cap, v = .slice a js.length cap ∧ ShsAt base w a js := by
 rcases h.2 with ⟨rfl, h0⟩ | ⟨g, cap, cur, rfl, hb, hg, _⟩
 ·exact ⟨none, 0, by rw [h0], fun i hi => by omega⟩
 ·refine ⟨some ⟨g, 0, none⟩, cap, rfl, fun i hi => ?_⟩
  have hi' : i < svs.length := by rw [hs.1]; exact hi
  refine ⟨g, 0, svs[i], rfl, ⟨hb, (Array.getElem?_eq_some_iff.1 hg).1⟩, ?_, hs.2 i hi hi'⟩
  have := h.cells (g := g) rfl i svs[i] (List.getElem?_eq_getElem hi')
  have hadd : (⟨g, 0, none⟩ : Addr).add i = ⟨g, i, none⟩ := by unfold Addr.add; split <;> simp_all
  rw [hadd] at this
  simpa using this
theorem sdsAt_of_row {w : World} {SB base : Nat} {f : Nat → Value} {n : Nt} (hG : NetGood n) (h : w.rowIs SB 196 (n.pieces.length * 2) f) (hs : SdsOf f n.joints n.joints.length 0) (hb : base ≤ SB) : SdsAt base w (some ⟨SB, 0, none⟩) n := by
 intro p hp
 refine ⟨SB, 0, rfl, ⟨hb, h.lt⟩, fun s hs1 => ?_⟩
 obtain ⟨i, k, hst⟩ := stands_some (js := n.joints) (e := ⟨p, s⟩) (hG.once p hp s (by omega))
 have h1 : (p * 2 + s) / 2 = p := by omega
 have h2 : (p * 2 + s) % 2 = s := by omega
 refine ⟨i, k, ?_, hst⟩
 have := h.cell (i := p * 2 + s) (by omega)
 rw [hs (p * 2 + s) i k (by rw [h1, h2]; exact hst) (Or.inl hst.1)] at this
 simpa using this

theorem own_below {w w' : World} {base e size m : Nat} {v : Value} {xs : List Value} (h : w.ownsRow base e size v m xs) (hb : Below w.heap.size w w') : w'.ownsRow base e size v m xs :=
 h.kept (row := none) ⟨hb.os, hb.tape, hb.output, hb.size, fun k hk _ => hb.block k hk⟩ (by cases hv : v.ownBlock <;> simp)

theorem keeps_set3 (w : World) (N : Nat) (x y z : Value) {L : Nat} (hL : N < L) : Keeps L w (((w.setCell ⟨N, 0, none⟩ x).setCell ⟨N, 1, none⟩ y).setCell ⟨N, 2, none⟩ z) :=
 ((keeps_setCell w (p := ⟨N, 0, none⟩) hL x).trans (keeps_setCell _ (p := ⟨N, 1, none⟩) hL y)).trans (keeps_setCell _ (p := ⟨N, 2, none⟩) hL z)

end Go.Proofs.YtjacbppeebnjfaaGreat

namespace Go.Proofs.YtjacbppeebnjfaaGreat
open Go.RowKit

def RetFar (n : Nt) (a : Option Addr) (ca N : Nat) (e : Ending) (w' : World) : Prop :=
 (NetRes n 0 0 ∧ ∃ sh csh st cst, e = .returned (.tuple #[.agg #[.slice a n.pieces.length ca, .slice sh n.joints.length csh, .slice st n.pieces.length cst], .bool true]) ∧ ShsAt N w' sh n.joints ∧ SdsAt N w' st n)
  ∨ (¬ NetRes n 0 0 ∧ e = .returned (.tuple #[.agg #[.slice none 0 0, .slice none 0 0, .slice none 0 0], .bool false]))

set_option maxRecDepth 100000 in
set_option maxHeartbeats 4000000 in
theorem trackOf_far (a c : Option Addr) (ca cc : Nat) (n : Nt) (w : World) {L : Nat} (hp : PcsAt L w a n.pieces) (hj : JtsAt L w c n.joints) (hl : n.pieces.length ≤ 1048576) (hl' : n.joints.length ≤ 1048576)
  (hle : ∀ i (h : i < n.joints.length), n.joints[i].name.size ≤ maxLen) (hnm : ∀ i (h : i < n.pieces.length), n.pieces[i].name.size ≤ maxLen) :
  Calls Tryz.prog 74 #[.agg #[.slice a n.pieces.length ca, .slice c n.joints.length cc]] w fun e w' => RetFar n a ca w.heap.size e w' ∧ Below w.heap.size w w' := by
 have hvv : NetAt L w (.agg #[.slice a n.pieces.length ca, .slice c n.joints.length cc]) n := ⟨a, c, ca, cc, rfl, hp, hj⟩
 obtain ⟨i0, hi, hz0, hz1, hz2⟩ := info_parts info_shape
 go_enter Tryz.func74, Tryz.ntmps74
 go_wp2_with fail
 refine (implNetOk_any _ n _ (L := L) ?hA hl hl' hle hnm).mono ?_
 case hA => exact hvv.below bw0
 rintro e w1 ⟨fc, fa, rfl, hres, hb1⟩
 have hbw := Below.trans (bw0 : Below w.heap.size w _) (hb1.mono (by simp <;> omega))
 have hB0 : Boxed w1 w.heap.size [.slice a n.pieces.length ca, .slice c n.joints.length cc] := ((boxed_alloc _ _ _).below bw0).below hb1
 have hB1 : Boxed w1 (w.heap.size + 1) [.slice none 0 0, .slice none 0 0, .slice none 0 0] := (boxedN _ _ _ (by simp)).below hb1
 have a0 := hB0.2.1 0 _ rfl
 have a1 := hB0.2.1 1 _ rfl
 have r0 := hB1.2.1 0 _ rfl
 have r1 := hB1.2.1 1 _ rfl
 have r2 := hB1.2.1 2 _ rfl
 have z1 := hB1.2.2
 have n0 := hB0.1
 have n1 := hB1.1
 by_cases hc : fc = 0
 ·subst hc
  obtain ⟨rfl, hJ⟩ := netRes_zero hres
  have HR := hide hres
  have hG := netGood hres
  have hnp := hG.np
  clear hres hJ
  have hmk := run_make_rows (P := Tryz.prog) 63 196 _ 2 16 (by kernel_rfl) info_pair n.pieces.length (by omega) (by omega)
  have R0 : Hid (SdsOf (fun i => (#[Value.int .i64 0, Value.int .i64 0] : Array Value)[i % 2]!) n.joints 0 0) := fun q j m' _ h => by omega
  go_upto_region 3 with fail
  go_cut [4] (fun p wx => ∃ KB SB, p = .pointer (some ⟨KB, 0, none⟩) ∧ KB ≠ SB ∧ w1.heap.size ≤ KB ∧ w1.heap.size ≤ SB ∧ KB < wx.heap.size
   ∧ Boxed wx KB [.slice a n.pieces.length ca, .slice none 0 0, .slice (some ⟨SB, 0, none⟩) n.pieces.length n.pieces.length]
   ∧ (∃ f, wx.rowIs SB 196 (n.pieces.length * 2) f ∧ SdsOf f n.joints 0 0) ∧ Below w1.heap.size w1 wx)
  case first =>
   go_region
   all_goals go_wp2_with fail
   all_goals go_meet
   ·exact ⟨w1.heap.size + 1, w1.heap.size, rfl, by omega, by omega, by omega, by simp, (boxedN _ _ _ (by simp)).drew, ⟨_, ((row_madeN _ _ _ _ rfl).alloc _).drew, unhide R0⟩, bw0⟩
   ·exact ⟨w1.heap.size, w1.heap.size + 1, rfl, by omega, by omega, by omega, by simp <;> omega, ((boxed_alloc _ _ _).alloc _).drew, ⟨_, (row_madeN _ _ _ _ (by simp)).drew, unhide R0⟩, bw0⟩
  case rest =>
   obtain ⟨KB, SB, rfl, hne, hKB, hSB, hKBl, hBK0, ⟨f0, hrow0, hSD0⟩, hbc⟩ := hcut
   have hbwc := below_then hbw hbc
   have hBr0 := hB1.below hbc
   have hB00 := hB0.below hbc
   have HSD0 := hide hSD0
   have HROW0 := hide hrow0
   have hSBl := hrow0.lt
   have n1w := n1
   clear a0 a1 r0 r1 r2 z1 hmk hSD0 hrow0 hB0 hB1 n0 n1 R0
   have n0 := hB00.1
   have n1 := hBr0.1
   have a1 := hB00.2.1 1 _ rfl
   go_wp2_with fail
   go_loopw [26] (fun x wr => ∃ (k : Nat) (sv : Value) (svs : List Value) (f : Nat → Value), k ≤ n.joints.length ∧ x = .int .i64 k
     ∧ Boxed wr KB [.slice a n.pieces.length ca, sv, .slice (some ⟨SB, 0, none⟩) n.pieces.length n.pieces.length] ∧ wr.ownsRow wc.heap.size 167 1 sv k svs ∧ ShsOf svs n.joints k
     ∧ wr.rowIs SB 196 (n.pieces.length * 2) f ∧ SdsOf f n.joints k 0 ∧ Boxed wr (w.heap.size + 1) [.slice none 0 0, .slice none 0 0, .slice none 0 0] ∧ Below w.heap.size w wr ∧ wc.heap.size ≤ wr.heap.size)
    (fun x _ => n.joints.length - (intOf x).toNat)
   case atStart => exact ⟨0, _, [], f0, Nat.zero_le _, rfl, hBK0, World.ownsRow_nil _ _ _ _, ⟨rfl, fun i h h' => by simp at h'⟩, unhide HROW0, unhide HSD0, hBr0, hbwc, Nat.le_refl _⟩
   case round =>
    obtain ⟨k, sv, svs, f, hk, rfl, hBK, hown, hSV, hrow, hSD, hBr, hb, hU⟩ := hrel
    clear HROW0 HSD0 hBK0 hBr0 hB00 a1 hbc hb1
    have HROW := hide hrow
    have HSD := hide hSD
    have HSV := hide hSV
    clear hrow hSD hSV
    by_cases hlt : k < n.joints.length
    ·obtain ⟨b, off, ea, ec, rfl, hbs, c0, c1, c2, he⟩ := hj.below hb k hlt
     have hb0 : Below wr.heap.size wr (wr.alloc (.cells #[.int .i64 n.joints[k].kind, .string n.joints[k].name, .slice ea n.joints[k].ends.length ec] 56)) := bw0
     have heA := he.below hb0
     have hsz := hb.size
     go_wp2_with fail
     refine (shapeOf_any _ _ _ _ _ _ heA (hG.kind hlt)).mono ?_
     rintro e w2 ⟨sv2, rfl, hsv2, hb2⟩
     have hb2' := below_then hb0 hb2
     have hsz2 := hb2'.size
     have hBK2 := hBK.below hb2'
     have k1 := hBK2.2.1 1 _ rfl
     have kz := hBK2.2.2
     have kl := hBK2.1
     have hown2 := own_below hown hb2'
     have hlen := (unhide HSV).1
     have HSV2 := hide hsv2
     have hone := hsv2.one
     obtain ⟨u, x, fu, rfl, hm, hcf, hcall⟩ := hsv2.calls
     have HM := hide hm
     have HC := hide hcall
     clear hsv2 hm hcall
     go_wp2_with (at_builtin; refine wpList_append_own _ rfl (.tmp 40) (.tmp 42) 62 rfl wc.heap.size 167 i0 .nilIface 1 16 Tryz.underlying62 hi hz0 hz1 hz2 rfl (by decide) _ _ _ rfl (hown2.alloc _) ⟨w2.heap.size, 0, none⟩ 1 1 [.iface u x] rfl rfl ?c1 ?c2 ?c3 ?c4 ?c5 ?_)
     case c1 =>
      intro j u hj
      match j, hj with
      | 0, hj => simp at hj; subst hj; simp [Addr.add]
     case c2 => intro u hu; simp at hu; subst hu; exact hone
     case c3 => unfold maxLen; omega
     case c4 => omega
     case c5 => simp; omega
     intro v3 w3 hown3 hgr3 _
     obtain ⟨va, vc, rfl⟩ := own_slice hown3
     have hbA : Below w2.heap.size w2 (w2.alloc (.cells #[.iface u x] 167)) := bw0
     have hbA' := below_then hb2' hbA
     have hBK3 := (hBK2.alloc _).grown hgr3 (own_apart hown2 (by omega))
     have hBr3 := (hBr.below hbA').grown hgr3 (own_apart hown2 (by omega))
     have hrow3 := ((unhide HROW).of_block (hbA'.block _ (unhide HROW).lt)).of_block (hgr3.block SB (Nat.lt_of_lt_of_le (unhide HROW).lt hbA'.size) (own_apart hown2 (by omega)))
     have hb3 : Below w.heap.size w w3 := below_grown (below_then hb hbA') hgr3 (fun g hg => by have := (hown2.lt g hg).1; omega) (by simp; omega)
     have hsz3 : w2.heap.size + 1 ≤ w3.heap.size := by have := hgr3.size; simpa using this
     have HOWN3 := hide hown3
     have HROW3 := hide hrow3
     clear k1 kz kl hown2 hown3 hgr3 hrow3 hBK2 hBK hBr c0 c1 c2 he heA HROW hown
     have k1 := hBK3.2.1 1 _ rfl
     have kz := hBK3.2.2
     have kl := hBK3.1
     go_wp2_with fail
     refine upon_ends (by decide) (unhide HM _) ?_
     go_wp2_with fail
     refine (unhide HC _).mono ?_
     rintro e w5 ⟨B, rfl, hE, hb5⟩
     have hset : (w3.setCell ⟨KB, 1, none⟩ (.slice va (k + 1) vc)).heap.size = w3.heap.size := by simp [World.setCell]
     have hsz5 : w3.heap.size ≤ w5.heap.size := hset ▸ hb5.size
     have hB5 := (hBK3.set3 (.slice va (k + 1) vc)).below hb5
     have hBr5 := (hBr3.apart (p := ⟨KB, 1, none⟩) (show w.heap.size + 1 ≠ KB by omega) (.slice va (k + 1) vc)).below hb5
     have hrow5 := ((unhide HROW3).of_block (w' := w3.setCell ⟨KB, 1, none⟩ (.slice va (k + 1) vc)) (Below.heap_setCell _ _ _ _ (show SB ≠ KB by omega))).of_block (hb5.block SB (by rw [hset]; omega))
     have hown5 := own_below (own_set (unhide HOWN3) (p := ⟨KB, 1, none⟩) hKBl (.slice va (k + 1) vc)) hb5
     have hbw5 : Below w.heap.size w w5 := (Below.setCell hb3 (show w.heap.size ≤ KB by omega) _).trans (hb5.mono (by rw [hset]; omega))
     have hE5 := hE.mono (L' := wc.heap.size) (by rw [hset]; omega)
     clear hset
     have HOWN5 := hide hown5
     have HROW5 := hide hrow5
     clear hE hrow5 hown5 hcf k1 kz kl hBK3 hBr3 HROW3 HOWN3
     have HFIT := hide (hG.fits k hlt)
     go_wp2_with fail
     go_loopw [48] (fun z wq => ∃ (m : Nat) (f : Nat → Value), m ≤ n.joints[k].ends.length ∧ z = .int .i64 m ∧ wq.rowIs SB 196 (n.pieces.length * 2) f ∧ SdsOf f n.joints k m
      ∧ Boxed wq KB [.slice a n.pieces.length ca, (.slice va (k + 1) vc), .slice (some ⟨SB, 0, none⟩) n.pieces.length n.pieces.length] ∧ wq.ownsRow wc.heap.size 167 1 (.slice va (k + 1) vc) (k + 1) (svs ++ [.iface u x])
      ∧ Boxed wq (w.heap.size + 1) [.slice none 0 0, .slice none 0 0, .slice none 0 0] ∧ Keeps wc.heap.size w5 wq ∧ Below w.heap.size w wq) (fun z _ => n.joints[k].ends.length - (intOf z).toNat)
     case atStart => exact ⟨0, f, Nat.zero_le _, rfl, unhide HROW5, unhide HSD, hB5, unhide HOWN5, hBr5, keeps_below _ (Below.refl _ _), hbw5⟩
     case round =>
      obtain ⟨m, fq, hm, rfl, hrow, hSDq, hBKq, hownq, hBrq, hkp, hbq⟩ := hrel
      have hMq := hrow.lt
      have HOWNQ := hide hownq
      have HSDQ := hide hSDq
      clear hB5 hBr5 HROW5 HOWN5 hownq hSDq HSD
      by_cases hlt2 : m < n.joints[k].ends.length
      ·obtain ⟨B', off', hq, hbs', x0, y0⟩ := hE5.keeps hkp m hlt2
       obtain ⟨rfl, rfl⟩ : B = B' ∧ 0 = off' := by simpa using hq
       have hef := (unhide HFIT).2.2 m hlt2
       generalize hx : n.joints[k].ends[m] = ed at *
       obtain ⟨p0, s0⟩ := ed
       obtain ⟨⟨hp0, hp1⟩, hs0, hs1⟩ := hef
       obtain ⟨pn, rfl⟩ := Int.eq_ofNat_of_zero_le hp0
       obtain ⟨sn, rfl⟩ := Int.eq_ofNat_of_zero_le hs0
       have HX := hide hx
       clear hx hq
       simp only [Nat.zero_add] at x0 y0
       dsimp only at hp1 hs1 x0 y0
       have y1 := hrow.cell (i := pn * 2 + sn) (by omega)
       have z1 := hrow.frozen (pn * 2 + sn)
       have k2 := hBKq.2.1 2 _ rfl
       have kl := hBKq.1
       have hu4 : n.joints[k].ends.length ≤ 4 := by have h2 := (unhide HFIT).2.1; have h3 := (unhide HFIT).1.2; omega
       have HROW := hide hrow
       clear hrow
       go_wp2_with fail
       go_region
       go_wp2
       refine ⟨⟨m + 1, _, by omega, by go_num, (((unhide HROW).set _ _).alloc _).drew, (unhide HSDQ).step ⟨hlt, hlt2, unhide HX⟩ (by omega) (hG.once pn (by omega) sn (by omega)), ((hBKq.apart (show KB ≠ SB by omega) _).alloc _).drew,
        own_below (own_set (unhide HOWNQ) (p := ⟨SB, pn * 2 + sn, none⟩) hSBl _) bw0, ((hBrq.apart (show w.heap.size + 1 ≠ SB by omega) _).alloc _).drew,
        hkp.trans ((keeps_setCell _ (p := ⟨SB, pn * 2 + sn, none⟩) hSBl _).trans (keeps_below _ bw0)), (bw1 hbq)⟩, by simp [intOf]; omega⟩
      ·go_wp2
       refine ⟨⟨k + 1, _, _, fq, by omega, by go_num, hBKq, unhide HOWNQ, (unhide HSV).snoc hlt (unhide HSV2), hrow, (unhide HSDQ).next hlt (by omega), hBrq, hbq, by have := hkp.1; omega⟩, by simp [intOf]; omega⟩
    ·have hkl : k = n.joints.length := by omega
     subst hkl
     obtain ⟨sa, sc, rfl, hsh⟩ := shsAt_of_own hown (unhide HSV)
     have hsd := sdsAt_of_row hG (unhide HROW) (unhide HSD) (base := w.heap.size + 2) (by omega)
     have k0 := hBK.2.1 0 _ rfl
     have k1 := hBK.2.1 1 _ rfl
     have k2 := hBK.2.1 2 _ rfl
     have r0 := hBr.2.1 0 _ rfl
     have r1 := hBr.2.1 1 _ rfl
     have r2 := hBr.2.1 2 _ rfl
     have rz := hBr.2.2
     have hsh2 := hsh.mono (L' := w.heap.size + 2) (by omega)
     clear hown hsh
     go_wp2
     refine bodyPost_ret (v := .tuple #[.agg #[.slice a n.pieces.length ca, .slice sa n.joints.length sc, .slice (some ⟨SB, 0, none⟩) n.pieces.length n.pieces.length], .bool true]) (by simp [results, Tryz.results74, go_sem, r0, r1, r2]) rfl ⟨Or.inl ⟨unhide HR, sa, sc, _, _, rfl, ?_, ?_⟩, (bw1 hb)⟩
     ·exact (hsh2.keeps (keeps_set3 wr (w.heap.size + 1) _ _ _ (by omega))).mono (by omega)
     ·exact (hsd.keeps (keeps_set3 wr (w.heap.size + 1) _ _ _ (by omega))).mono (by omega)
 ·have hcb : (fc == 0) = false := ne_beq hc
  have HN : Hid (¬ NetRes n 0 0) := fun h => hc ((netRes_right hres).2 h)
  clear hres hc
  go_wp2
  all_goals exact bodyPost_ret (v := .tuple #[.agg #[.slice none 0 0, .slice none 0 0, .slice none 0 0], .bool false]) (by simp [results, Tryz.results74, go_sem, r0, r1, r2]) rfl ⟨Or.inr ⟨unhide HN, rfl⟩, (bw1 hbw)⟩

end Go.Proofs.YtjacbppeebnjfaaGreat

namespace Go.Proofs.YtjacbppeebnjfaaGreat
open Go.RowKit

set_option maxHeartbeats 1000000 in
theorem liesFit_any (kv : Value) (n : Nt) (b0 : Option Addr) (zs : List Int) (cb : Nat) (w : World) {L L' : Nat} (hk : TrkAt L w kv n) (hz : IntsAt L' w b0 zs) (hl' : n.joints.length ≤ 1048576) :
  Calls Tryz.prog 40 #[kv, .slice b0 zs.length cb] w fun e w' => RetB (LiesFit n.joints zs) e ∧ Below w.heap.size w w' := by
 obtain ⟨a, ca, sh, csh, st, cst, rfl, hp, hsh, hsd⟩ := hk
 by_cases hlen : zs.length = n.joints.length
 ·have hlb : ((zs.length : Int) != (n.joints.length : Int)) = false := by rw [hlen]; simp
  have HL := hide hlen
  clear hlen
  go_enter Tryz.func40, Tryz.ntmps40
  go_wp2_with fail
  go_loopw [15] (fun x wr => ∃ k : Nat, k ≤ zs.length ∧ x = .int .i64 k ∧ (∀ i (h : i < n.joints.length) (h' : i < zs.length), i < k → LieFit n.joints[i].kind zs[i])
   ∧ Boxed wr w.heap.size [.slice a n.pieces.length ca, .slice sh n.joints.length csh, .slice st n.pieces.length cst] ∧ Below w.heap.size w wr) (fun x _ => zs.length - (intOf x).toNat)
  case atStart => exact ⟨0, Nat.zero_le _, rfl, fun i h h' h'' => by omega, boxed_alloc _ _ _, bw0⟩
  case round =>
   obtain ⟨k, hk, rfl, hall, hB1, hb⟩ := hrel
   have x1 := hB1.2.1 1 _ rfl
   by_cases hlt : k < zs.length
   ·obtain ⟨b2, off2, rfl, hbs2, x0⟩ := hz.below hb k hlt
    have hltj : k < n.joints.length := by have := unhide HL; omega
    obtain ⟨b, off, sv, rfl, hbs, c0, hsv⟩ := (hsh.keeps (keeps_below _ hb)) k hltj
    have HSV := hide hsv
    clear hsv
    go_wp2_with fail
    refine (lieFits_any _ _ _ _ _ (unhide HSV)).mono ?_
    rintro e w3 ⟨⟨rfl, hr⟩ | ⟨rfl, hr⟩, hb3⟩
    ·have HRR := hide hr
     clear hr
     go_wp2
     refine ⟨⟨k + 1, by omega, by go_num, fun i h h' h'' => ?_, hB1.below hb3, below_then hb hb3⟩, by simp [intOf]; omega⟩
     by_cases e : i = k
     ·subst e
      exact unhide HRR
     ·exact hall i h h' (by omega)
    ·have HRR := hide hr
     clear hr
     go_wp2
     go_ret
     exact ⟨retB_false fun h => unhide HRR (h.2 k hltj hlt), below_then hb hb3⟩
   ·go_wp2
    go_ret
    exact ⟨retB_true ⟨unhide HL, fun i h h' => hall i h h' (by omega)⟩, hb⟩
 ·have hlb : ((zs.length : Int) != (n.joints.length : Int)) = true := by rw [bne_iff_ne]; omega
  have HL := hide hlen
  clear hlen
  go_enter Tryz.func40, Tryz.ntmps40
  go_wp2
  go_ret
  exact ⟨retB_false fun h => unhide HL h.1, bw0⟩

end Go.Proofs.YtjacbppeebnjfaaGreat
