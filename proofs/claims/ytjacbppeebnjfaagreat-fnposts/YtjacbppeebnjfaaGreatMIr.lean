import Derived.Test.YtjacbppeebnjfaaGreatMDr11
import Derived.Test.YtjacbppeebnjfaaGreatMRo
import Derived.Test.YtjacbppeebnjfaaGreatMSpec12
import Derived.Test.YtjacbppeebnjfaaGreatMPlain3
namespace Go.Proofs.YtjacbppeebnjfaaGreat
open Go.RowKit

def iF (z : Int) : List Value := [.int .i64 z]
theorem iF_len (z : Int) : (iF z).length = 1 := rfl
abbrev IRow (w : World) (base : Nat) (v : Value) (zs : List Int) : Prop := Row w base 3 1 iF v zs
theorem i_one (x : Int) : ∀ u ∈ iF x, u.oneCell' = true := by
 intro u hu
 simp [iF] at hu
 subst hu
 rfl
theorem iRow_at {w : World} {base : Nat} {v : Value} {zs : List Int} (h : IRow w base v zs) : ∃ a cap, v = .slice a zs.length cap ∧ IntsAt base w a zs := by
 obtain ⟨a, cap, e, _, hc⟩ := h.shape iF_len
 refine ⟨a, cap, e, fun i hi => ?_⟩
 obtain ⟨g, rfl, hl, hcell⟩ := hc i hi
 exact ⟨g, 0, rfl, hl, by simpa [iF] using hcell 0 (by omega)⟩
def liesGo (bs : List Int) : List Jt → Cu → List Int → List Int × Cu
 | [], c, zs => (zs, c)
 | j :: r, c, zs => if j.kind = 3 then liesGo bs r (pickC bs c 2).2 (zs ++ [1 + (pickC bs c 2).1]) else liesGo bs r c (zs ++ [0])
theorem liesGo_sw (bs : List Int) {j : Jt} (r : List Jt) (c : Cu) (zs : List Int) (h : j.kind = 3) : liesGo bs (j :: r) c zs = liesGo bs r (pickC bs c 2).2 (zs ++ [1 + (pickC bs c 2).1]) := by
 show (if j.kind = 3 then _ else _) = _
 rw [if_pos h]
theorem liesGo_no (bs : List Int) {j : Jt} (r : List Jt) (c : Cu) (zs : List Int) (h : ¬ j.kind = 3) : liesGo bs (j :: r) c zs = liesGo bs r c (zs ++ [0]) := by
 show (if j.kind = 3 then _ else _) = _
 rw [if_neg h]
theorem liesGo_at (bs : List Int) : ∀ (js : List Jt) (c : Cu) (zs : List Int), (liesGo bs js c zs).2.at_ ≤ c.at_ + 2 * js.length ∧ (liesGo bs js c zs).1.length = zs.length + js.length := by
 intro js
 induction js with
 | nil => intro c zs; exact ⟨Nat.le_refl _, rfl⟩
 | cons j r ih =>
  intro c zs
  unfold liesGo
  split
  ·have h1 := ih (pickC bs c 2).2 (zs ++ [1 + (pickC bs c 2).1])
   have h2 := pickC_at bs c 2
   rw [List.length_append, List.length_singleton] at h1
   rw [List.length_cons]
   exact ⟨by omega, by omega⟩
  ·have h1 := ih c (zs ++ [0])
   rw [List.length_append, List.length_singleton] at h1
   rw [List.length_cons]
   exact ⟨by omega, by omega⟩
theorem iRow_ints {w : World} {base : Nat} {a : Option Addr} {cap : Nat} {zs : List Int} (h : IRow w base (.slice a zs.length cap) zs) : IntsAt base w a zs := by
 obtain ⟨a', cap', e, h1⟩ := iRow_at h
 simp at e
 rw [e.1]
 exact h1

structure DrW (C base0 : Nat) (bs : List Int) (w3 : World) (c : Cu) (u : Value) (zs : List Int) (w : World) : Prop where
 cur : CurAt w C bs c
 row : IRow w base0 u zs
 but : But (fun k => k = C) base0 w3 w
 base_ : base0 ≤ w.heap.size
theorem DrW.draw {C base0 : Nat} {bs : List Int} {w3 w w' : World} {c c' : Cu} {u : Value} {zs : List Int} (h : DrW C base0 bs w3 c u zs w) (ho : Only (fun k => k = C) w w') (hc : CurAt w' C bs c') (hC : C < base0) : DrW C base0 bs w3 c' u zs w' :=
 ⟨hc, h.row.only ho (fun k hk (e : k = C) => by have := (h.row.lt k hk).1; omega), h.but.trans (but_only ho (fun _ _ e => e) h.base_), Nat.le_trans h.base_ ho.size⟩
theorem DrW.below {C base0 : Nat} {bs : List Int} {w3 w w' : World} {c : Cu} {u : Value} {zs : List Int} (h : DrW C base0 bs w3 c u zs w) (hb : Below w.heap.size w w') : DrW C base0 bs w3 c u zs w' :=
 ⟨h.cur.below hb, h.row.below hb, h.but.trans (but_below hb h.base_), Nat.le_trans h.base_ hb.size⟩
theorem DrW.add {C base0 : Nat} {bs : List Int} {w3 w w' : World} {c : Cu} {u u' : Value} {zs zs' : List Int} (h : DrW C base0 bs w3 c u zs w) (hg : w.grownBy w' u.ownBlock) (hrow : IRow w' base0 u' zs') (hC : C < base0) : DrW C base0 bs w3 c u' zs' w' := by
 have hne : ∀ k, u.ownBlock = some k → base0 ≤ k := fun k hk => (h.row.lt k hk).1
 have hb : Below base0 w w' := Below.grown (Below.refl base0 w) hg h.base_ hne
 exact ⟨h.cur.of_below hb hC, hrow, h.but.trans (but_below hb (Nat.le_refl _)), Nat.le_trans h.base_ hb.size⟩

end Go.Proofs.YtjacbppeebnjfaaGreat

set_option linter.unusedSimpArgs false
namespace Go.Proofs.YtjacbppeebnjfaaGreat
open Go.RowKit

def cur0 : Cu := ⟨0, 0⟩
def DrawnIs (bs : List Int) (n : Nt) (zs : List Int) (t : Tr) : Prop :=
 n = (trackC bs cur0).1 ∧ zs = (liesGo bs n.joints (trackC bs cur0).2 []).1 ∧ ∃ c', TrnIs bs n zs 4 (liesGo bs n.joints (trackC bs cur0).2 []).2 t c'
theorem DrawnIs.unique {bs : List Int} {n n' : Nt} {zs zs' : List Int} {t t' : Tr} (h : DrawnIs bs n zs t) (g : DrawnIs bs n' zs' t') : n = n' ∧ zs = zs' ∧ t = t' := by
 obtain ⟨rfl, rfl, c', h⟩ := h
 obtain ⟨rfl, rfl, c'', g⟩ := g
 exact ⟨rfl, rfl, (h.unique g).1⟩
theorem DrawnIs.small {bs : List Int} {n : Nt} {zs : List Int} {t : Tr} (h : DrawnIs bs n zs t) : NtSmall n := by
 rw [h.1]
 exact trackC_sm _ _
theorem DrawnIs.len {bs : List Int} {n : Nt} {zs : List Int} {t : Tr} (h : DrawnIs bs n zs t) : zs.length = n.joints.length := by
 rw [h.2.1, (liesGo_at _ _ _ _).2]
 simp
theorem DrawnIs.back {bs : List Int} {n : Nt} {zs : List Int} {t : Tr} (h : DrawnIs bs n zs t) : t.back.length ≤ 200 := h.2.2.choose_spec.len
def RetDr (bs : List Int) (w : World) (e : Ending) (w' : World) : Prop :=
 ∃ v n zq zs zc t ta tc ok, e = .returned (.tuple #[v, .slice zq zs.length zc, trV t ta tc, .bool ok]) ∧ DrawnIs bs n zs t ∧ (ok = true ↔ TrainRight n t ∧ SitsRight n zs t) ∧ NetAt w.heap.size w' v n ∧ IRow w' w.heap.size (.slice zq zs.length zc) zs ∧ StRow w' w.heap.size (.slice ta t.back.length tc) t.back ∧ Below w.heap.size w w'
theorem stRow_tr {w : World} {base : Nat} {t : Tr} {a : Option Addr} {cap : Nat} (h : StRow w base (.slice a t.back.length cap) t.back) : TrAt base w (trV t a cap) t := by
 obtain ⟨a', cap', e, _, hc⟩ := Row.shape (f := stF) (sz := 2) (fun _ => rfl) h
 simp at e
 obtain ⟨rfl, rfl⟩ := e
 refine ⟨a, cap, rfl, fun i hi => ?_⟩
 obtain ⟨g, rfl, hl, hcell⟩ := hc i hi
 exact ⟨g, 0, rfl, hl, by simpa [stF] using hcell 0 (by omega), by simpa [stF] using hcell 1 (by omega)⟩

set_option maxRecDepth 100000 in
set_option maxHeartbeats 8000000 in
theorem drawn_any (bs : List Int) (ba : Option Addr) (bcap : Nat) (w : World) (hba : BytesAt w.heap.size w ba bs) (hbs : BytesIn bs) :
  Calls Tryz.prog 4 #[.slice ba bs.length bcap] w (RetDr bs w) := by
 obtain ⟨i1, hj1, hy0, hy1, hy2⟩ := info_parts info_Int
 have hta := trackC_at bs cur0
 have htsm := trackC_sm bs cur0
 obtain ⟨⟨n, c1⟩, hnc⟩ : ∃ x, trackC bs cur0 = x := ⟨_, rfl⟩
 have HDI : Hid (∀ zs t c2 c', liesGo bs n.joints c1 [] = (zs, c2) → TrnIs bs n zs 4 c2 t c' → DrawnIs bs n zs t) := fun zs t c2 c' h1 h2 => by
  unfold DrawnIs
  rw [hnc]
  refine ⟨rfl, ?_, c', ?_⟩
  ·rw [h1]
  ·rw [h1]; exact h2
 rw [hnc] at hta htsm
 dsimp only at hta htsm
 have hat0 : cur0.at_ = 0 := rfl
 have hca : c1.at_ ≤ 410 := by omega
 have HSM := hide htsm
 have hjl : n.joints.length ≤ 10000 := htsm.jts
 have HNC := hide hnc
 have HBA := hide hba
 clear hnc htsm hba hta hat0
 go_enter Tryz.func4, Tryz.ntmps4
 go_wp2_with fail
 have HCU0 : Hid (CurAt (((w.alloc (.cells #[.slice none 0 0, .slice none 0 0] 26)).alloc (.cells #[.int .i64 0, .int .i64 0, .int .i64 0, .int .i64 0, .slice none 0 0] 32)).alloc (.cells #[.slice ba bs.length bcap, .int .i64 0, .int .u64 0] 52)) (w.heap.size + 1 + 1) bs cur0) := by
  refine ⟨ba, bcap, boxedN _ _ _ (by simp), fun i hi => ?_⟩
  obtain ⟨b, off, e, hb, hc, hr⟩ := unhide HBA i hi
  have hbel : Below w.heap.size w (((w.alloc (.cells #[.slice none 0 0, .slice none 0 0] 26)).alloc (.cells #[.int .i64 0, .int .i64 0, .int .i64 0, .int .i64 0, .slice none 0 0] 32)).alloc (.cells #[.slice ba bs.length bcap, .int .i64 0, .int .u64 0] 52)) := bw0
  exact ⟨b, off, e, ⟨by omega, Nat.lt_of_lt_of_le hb.2 hbel.size⟩, (hbel.cell hb.2).trans hc, hr⟩
 have HR1 : Hid (Boxed (((w.alloc (.cells #[.slice none 0 0, .slice none 0 0] 26)).alloc (.cells #[.int .i64 0, .int .i64 0, .int .i64 0, .int .i64 0, .slice none 0 0] 32)).alloc (.cells #[.slice ba bs.length bcap, .int .i64 0, .int .u64 0] 52)) w.heap.size [.slice none 0 0, .slice none 0 0]) := ((boxed_alloc w #[.slice none 0 0, .slice none 0 0] 26).alloc _).alloc _
 have HR2 : Hid (Boxed (((w.alloc (.cells #[.slice none 0 0, .slice none 0 0] 26)).alloc (.cells #[.int .i64 0, .int .i64 0, .int .i64 0, .int .i64 0, .slice none 0 0] 32)).alloc (.cells #[.slice ba bs.length bcap, .int .i64 0, .int .u64 0] 52)) (w.heap.size + 1) [.int .i64 0, .int .i64 0, .int .i64 0, .int .i64 0, .slice none 0 0]) := (boxedN _ _ _ (by simp)).alloc _
 have HB0 : Hid (Below w.heap.size w (((w.alloc (.cells #[.slice none 0 0, .slice none 0 0] 26)).alloc (.cells #[.int .i64 0, .int .i64 0, .int .i64 0, .int .i64 0, .slice none 0 0] 32)).alloc (.cells #[.slice ba bs.length bcap, .int .i64 0, .int .u64 0] 52))) := bw0
 obtain ⟨wb, hwb⟩ : ∃ wb, (((w.alloc (.cells #[.slice none 0 0, .slice none 0 0] 26)).alloc (.cells #[.int .i64 0, .int .i64 0, .int .i64 0, .int .i64 0, .slice none 0 0] 32)).alloc (.cells #[.slice ba bs.length bcap, .int .i64 0, .int .u64 0] 52)) = wb := ⟨_, rfl⟩
 have hwbs : wb.heap.size = w.heap.size + 3 := by rw [← hwb]; simp
 rw [hwb] at HCU0 HR1 HR2 HB0 ⊢
 obtain ⟨C, hC⟩ : ∃ C, w.heap.size + 1 + 1 = C := ⟨_, rfl⟩
 obtain ⟨R2, hR2⟩ : ∃ R2, w.heap.size + 1 = R2 := ⟨_, rfl⟩
 obtain ⟨R1, hR1⟩ : ∃ R1, w.heap.size = R1 := ⟨_, rfl⟩
 have hord : w.heap.size ≤ R1 ∧ R1 < R2 ∧ R2 < C ∧ C < wb.heap.size := by omega
 rw [hC] at HCU0 ⊢
 rw [hR2] at HR2 ⊢
 have HR1' : Hid (Boxed wb R1 [.slice none 0 0, .slice none 0 0]) := by rw [← hR1]; exact unhide HR1
 rw [hR1]
 clear hwb hC hR2 hR1 hwbs HR1
 refine (track_any C bs cur0 _ (unhide HCU0) hbs (by decide)).mono ?_
 rw [unhide HNC]
 rintro e w2 ⟨v, rfl, hn2, hcu2, hb2⟩
 dsimp only at hn2 hcu2
 obtain ⟨a1, a2, k1, k2, rfl, hp2, hj2⟩ := hn2
 have hs2 := hb2.size
 have HN2 : Hid (NetAt wb.heap.size w2 (.agg #[.slice a1 n.pieces.length k1, .slice a2 n.joints.length k2]) n) := ⟨a1, a2, k1, k2, rfl, hp2, hj2⟩
 obtain ⟨w3, hw3⟩ : ∃ w3, w2.alloc (.cells #[.slice a1 n.pieces.length k1, .slice a2 n.joints.length k2] 26) = w3 := ⟨_, rfl⟩
 obtain ⟨X, hX⟩ : ∃ X, w2.heap.size = X := ⟨_, rfl⟩
 have hB23 : Below w2.heap.size w2 w3 := by rw [← hw3]; exact bw0
 have hBX : Boxed w3 X [.slice a1 n.pieces.length k1, .slice a2 n.joints.length k2] := by rw [← hw3, ← hX]; exact boxed_alloc _ _ _
 have hR1b := ((unhide HR1').blk hb2.size (hb2.block R1 (by omega) (show ¬ R1 = C by omega))).below hB23
 have hR2b := ((unhide HR2).blk hb2.size (hb2.block R2 (by omega) (show ¬ R2 = C by omega))).below hB23
 have HN3 := hide ((unhide HN2).below hB23)
 have hcu3 := hcu2.below hB23
 have hs3 := hB23.size
 have hs3' : w3.heap.size = X + 1 := by rw [← hw3, ← hX]; simp
 have HBW3 : Hid (But (fun k => k = C) w.heap.size w w3) := but_below' ((but_below (unhide HB0) (Nat.le_refl _)).trans (hb2.mono (by omega) (fun _ _ e => e))) hB23
 have hordX : C < X ∧ X < w3.heap.size ∧ wb.heap.size ≤ X := by omega
 obtain ⟨base0, hbase0⟩ : ∃ base0, w3.heap.size = base0 := ⟨_, rfl⟩
 have hob : base0 ≤ w3.heap.size ∧ X < base0 := by omega
 have HT0 : Hid (DrW C base0 bs w3 c1 (.slice none 0 0) [] w3) := ⟨hcu3, Row.nil _ _ _ _ _, But.refl _ _ _, by omega⟩
 have HR1 := hide hR1b
 have HR2 := hide hR2b
 have HXB := hide hBX
 have HBS := hide hbase0
 clear hB23 hR1b hR2b hcu3 hp2 hj2 hcu2 hb2 HR1' HCU0 HN2 hbase0 hs3'
 have hjx : JtsAt wb.heap.size w3 a2 n.joints := by
  obtain ⟨_, _, _, _, he, _, hj⟩ := unhide HN3
  simp only [Value.agg.injEq, Array.mk.injEq, List.cons.injEq, Value.slice.injEq, and_true] at he
  rw [he.2.1]
  exact hj
 have HJX := hide hjx
 clear hjx
 go_upto_region 3 with fail
 clear hw3 hX

 have x1 := (unhide HXB).2.1 1 _ rfl
 have xl := (unhide HXB).1
 obtain ⟨J, hJ⟩ : ∃ J, n.joints.length = J := ⟨_, rfl⟩
 rw [hJ] at x1 hjl
 have HJL := hide hJ
 clear hJ hBX
 go_wp2_with fail
 clear x1 xl
 go_loopw [8, 21] (fun y z wr => ∃ (i : Nat) (zs : List Int) (c2 : Cu), z = .int .i64 i ∧ i ≤ J ∧ Hid (zs.length = i) ∧ c2.at_ + 2 * (J - i) ≤ 410 + 2 * J ∧ Hid (liesGo bs (n.joints.drop i) c2 zs = liesGo bs n.joints c1 []) ∧ Hid (DrW C base0 bs w3 c2 y zs wr)) (fun _ z _ => J - (intOf z).toNat)
 case atStart => exact ⟨0, [], c1, rfl, Nat.zero_le _, rfl, by omega, rfl, HT0⟩
 case round =>
  clear HT0
  obtain ⟨i, zs, c2, rfl, hi, HLZ, hat, HGO, HTR⟩ := hrel
  by_cases hlt : i < J
  ·have hlt' : (i : Int) < (J : Int) := by omega
   have hlt2 : i < n.joints.length := by rw [unhide HJL]; exact hlt
   obtain ⟨jb, joff, ea, ec, hae, hjb, q0, q1, q2, _⟩ := (unhide HJX) i hlt2
   have hkeep : wr.heap[jb]? = w3.heap[jb]? := (unhide HTR).but.block jb (by have := unhide HBS; omega) (show ¬ jb = C by omega)
   have p0 := (World.cell?_of_block (w := w3) (a := ⟨jb, joff + i * 3, none⟩) hkeep).trans q0
   have p1 := (World.cell?_of_block (w := w3) (a := ⟨jb, joff + i * 3 + 1, none⟩) hkeep).trans q1
   have p2 := (World.cell?_of_block (w := w3) (a := ⟨jb, joff + i * 3 + 2, none⟩) hkeep).trans q2
   have hjw : jb < wr.heap.size := by have := (unhide HTR).but.size; omega
   have HDR : Hid (n.joints.drop i = n.joints[i] :: n.joints.drop (i + 1)) := List.drop_eq_getElem_cons hlt2
   obtain ⟨⟨kd, nm, es⟩, hjt⟩ : ∃ jt, n.joints[i] = jt := ⟨_, rfl⟩
   rw [hjt] at p0 p1 p2 HDR
   dsimp only at p0 p1 p2
   subst hae
   clear q0 q1 q2 hkeep hjt
   have hwi : IntKind.i64.wrap ((i : Int) + 1) = ((i + 1 : Nat) : Int) := (wrap_small (by omega) (by omega)).trans (by omega)
   have hzl : zs.length ≤ 1000000 := by rw [unhide HLZ]; omega
   have hb0 := (unhide HTR).base_
   by_cases h3 : kd = 3
   ·subst h3
    have hpi := pickC_in bs c2 2
    have hpa := pickC_at bs c2 2
    obtain ⟨r, hr⟩ : ∃ r, (pickC bs c2 2).1 = r := ⟨_, rfl⟩
    obtain ⟨c3, hc3⟩ : ∃ c3, (pickC bs c2 2).2 = c3 := ⟨_, rfl⟩
    rw [hr] at hpi
    rw [hc3] at hpa
    have HR := hide (And.intro hr hc3)
    clear hr hc3
    have hw1 : IntKind.i64.wrap (1 + r) = 1 + r := wrap_small (by omega) (by omega)
    have HG2 : Hid (liesGo bs (n.joints.drop (i + 1)) c3 (zs ++ [1 + r]) = liesGo bs n.joints c1 []) := by
     have h1 := unhide HGO
     rw [unhide HDR] at h1
     rw [liesGo_sw bs _ _ _ rfl, (unhide HR).1, (unhide HR).2] at h1
     exact h1
    go_wp2_with fail
    refine (pick_any C bs c2 2 _ ((unhide HTR).cur.below bw0) hbs (by omega) (by omega)).mono ?_
    rw [(unhide HR).1, (unhide HR).2]
    rintro e wA ⟨rfl, hcuA, hoA⟩
    have HTA := hide (((unhide HTR).below (bw0 : Below _ _ (wr.alloc (.cells #[.int .i64 3, .string nm, .slice ea es.length ec] 56)))).draw hoA hcuA (by omega))
    clear hcuA hoA p0 p1 p2 hjw HTR
    have hbA := (unhide HTA).base_
    go_wp2_with (at_builtin; refine wpList_append_own _ rfl (.tmp 31) (.tmp 33) 27 rfl base0 3 i1 (.int .i64 0) 1 8 Tryz.underlying27 hj1 hy0 hy1 hy2 rfl (by decide) _ _ _ rfl ((unhide HTA).row.below bw0) ⟨wA.heap.size, 0, none⟩ 1 1 (iF (1 + r)) rfl rfl ?c1 (i_one _) ?c2 ?c3 ?c4 ?_)
    case c1 => (first | exact fun _ _ h => h | exact box_news (boxedN _ _ _ (by first | rfl | simp)))
    case c2 => unfold maxLen; omega
    case c3 => omega
    case c4 => (first | omega | (simp; omega))
    intro u' w9 hown9 hgrow9 _
    have hrow9 : IRow w9 base0 u' (zs ++ [(1 + r)]) := Row.snoc (f := iF) hown9
    have HT9 := hide (((unhide HTA).below (bw0 : Below _ _ (wA.alloc (.cells #[.int .i64 (1 + r)] 3)))).add hgrow9 hrow9 (by omega))
    clear hown9 hgrow9 hrow9
    go_wp2_with fail
    exact ⟨⟨i + 1, zs ++ [(1 + r)], c3, rfl, by omega, by unfold Hid; rw [List.length_append, List.length_singleton, unhide HLZ], by omega, HG2, HT9⟩, by simp [intOf]; omega⟩
   ·have h3' : (kd == 3) = false := by rw [beq_eq_false_iff_ne]; exact h3
    have HG2 : Hid (liesGo bs (n.joints.drop (i + 1)) c2 (zs ++ [0]) = liesGo bs n.joints c1 []) := by
     have h1 := unhide HGO
     rw [unhide HDR] at h1
     rw [liesGo_no bs _ _ _ h3] at h1
     exact h1
    have HTA := hide ((unhide HTR).below (bw0 : Below _ _ (wr.alloc (.cells #[.int .i64 kd, .string nm, .slice ea es.length ec] 56))))
    have hbA := (unhide HTA).base_
    go_wp2_with (at_builtin; refine wpList_append_own _ rfl (.tmp 31) (.tmp 33) 27 rfl base0 3 i1 (.int .i64 0) 1 8 Tryz.underlying27 hj1 hy0 hy1 hy2 rfl (by decide) _ _ _ rfl ((unhide HTA).row.below bw0) ⟨wr.heap.size + 1, 0, none⟩ 1 1 (iF 0) rfl rfl ?c1 (i_one _) ?c2 ?c3 ?c4 ?_)
    case c1 => (first | exact fun _ _ h => h | exact box_news (boxedN _ _ _ (by first | rfl | simp)))
    case c2 => unfold maxLen; omega
    case c3 => omega
    case c4 => (first | omega | (simp; omega))
    intro u' w9 hown9 hgrow9 _
    have hrow9 : IRow w9 base0 u' (zs ++ [0]) := Row.snoc (f := iF) hown9
    have HT9 := hide (((unhide HTA).below (bw0 : Below _ _ ((wr.alloc (.cells #[.int .i64 kd, .string nm, .slice ea es.length ec] 56)).alloc (.cells #[.int .i64 0] 3)))).add hgrow9 hrow9 (by omega))
    clear hown9 hgrow9 hrow9
    go_wp2_with fail
    exact ⟨⟨i + 1, zs ++ [0], c2, rfl, by omega, by unfold Hid; rw [List.length_append, List.length_singleton, unhide HLZ], by omega, HG2, HT9⟩, by simp [intOf]; omega⟩
  ·have hlt' : ¬ (i : Int) < (J : Int) := by omega
   have hiJ : i = J := by omega
   subst hiJ
   have HLG : Hid (liesGo bs n.joints c1 [] = (zs, c2)) := by
    rw [← unhide HGO, List.drop_eq_nil_of_le (by rw [unhide HJL]; exact Nat.le_refl _)]
    rfl
   obtain ⟨zq, zc, hzv, hzi⟩ := iRow_at (unhide HTR).row
   subst hzv
   have hXr := (unhide HXB).blk (unhide HTR).but.size ((unhide HTR).but.block X (by omega) (show ¬ X = C by omega))
   have x0 := hXr.2.1 0 _ rfl
   have x1 := hXr.2.1 1 _ rfl
   have xl := hXr.1
   have HNR : Hid (NetAt wb.heap.size wr (.agg #[.slice a1 n.pieces.length k1, .slice a2 n.joints.length k2]) n) := (unhide HN3).keeps ⟨(unhide HTR).but.size, fun k hk hlt => (unhide HTR).but.block k (by have := unhide HBS; omega) (show ¬ k = C by omega)⟩
   have HZR := hide hzi
   have hb0 := (unhide HTR).base_
   clear hXr hzi
   have hatc : c2.at_ ≤ 410 + 2 * i := by omega

   go_wp2_with fail
   refine (drawTrain_any C bs c2 _ n zq zs zc _ (unhide HTR).cur hbs (by omega) (netK_hi (unhide HNR) (by omega)) (intsK_hi (unhide HZR) (by omega)) (unhide HSM)).mono ?_
   rintro e w5 ⟨t, ta, tc, c6, rfl, htn, hrow5, hcu5, hb5⟩
   dsimp only [trV]
   have HDR := hide (unhide HDI zs t c2 c6 (unhide HLG) htn)
   have hs5 := hb5.size
   have HN5 : Hid (NetAt wb.heap.size w5 (.agg #[.slice a1 n.pieces.length k1, .slice a2 n.joints.length k2]) n) := (unhide HNR).keeps (keeps_but hb5 (by omega))
   have HZ5 : Hid (IRow w5 base0 (.slice zq zs.length zc) zs) := (unhide HTR).row.block fun k hk => hb5.block k ((unhide HTR).row.lt k hk).2 (show ¬ k = C by have := ((unhide HTR).row.lt k hk).1; omega)
   have HX5 : Hid (Boxed w5 X [.slice a1 n.pieces.length k1, .slice a2 n.joints.length k2]) := ((unhide HXB).blk (unhide HTR).but.size ((unhide HTR).but.block X (by omega) (show ¬ X = C by omega))).blk hb5.size (hb5.block X (by omega) (show ¬ X = C by omega))
   have HR15 : Hid (Boxed w5 R1 [.slice none 0 0, .slice none 0 0]) := ((unhide HR1).blk (unhide HTR).but.size ((unhide HTR).but.block R1 (by omega) (show ¬ R1 = C by omega))).blk hb5.size (hb5.block R1 (by omega) (show ¬ R1 = C by omega))
   have HR25 : Hid (Boxed w5 R2 [.int .i64 0, .int .i64 0, .int .i64 0, .int .i64 0, .slice none 0 0]) := ((unhide HR2).blk (unhide HTR).but.size ((unhide HTR).but.block R2 (by omega) (show ¬ R2 = C by omega))).blk hb5.size (hb5.block R2 (by omega) (show ¬ R2 = C by omega))
   have HB5 : Hid (Below w.heap.size w w5) := ((unhide HBW3).trans (((unhide HTR).but.mono (by omega) (fun _ _ e => e)).trans (hb5.mono (by omega) (fun _ _ e => e)))).below (Nat.le_refl _) (fun k hk (e : k = C) => by omega)
   have HRW5 := hide hrow5
   clear htn hcu5 hb5 hrow5 x0 x1 xl
   go_upto_region 13 with fail
   obtain ⟨T, hT⟩ : ∃ T, w5.heap.size = T := ⟨_, rfl⟩
   obtain ⟨w6, hw6⟩ : ∃ w6, w5.alloc (.cells #[.int .i64 t.front.piece, .int .i64 t.front.at_, .int .i64 t.front.way, .int .i64 t.long, .slice ta t.back.length tc] 32) = w6 := ⟨_, rfl⟩
   have hB56 : Below w5.heap.size w5 w6 := by rw [← hw6]; exact bw0
   have HT6 : Hid (Boxed w6 T [.int .i64 t.front.piece, .int .i64 t.front.at_, .int .i64 t.front.way, .int .i64 t.long, .slice ta t.back.length tc]) := by rw [← hw6, ← hT]; exact boxed_alloc _ _ _
   have hs6 := hB56.size
   rw [hw6]
   rw [hT]
   have hT6 : T < w6.heap.size := (unhide HT6).1
   have HN6 := hide ((unhide HN5).below hB56)
   have HZ6 := hide ((unhide HZ5).below hB56)
   have HX6 := hide ((unhide HX5).below hB56)
   have HR16 := hide ((unhide HR15).below hB56)
   have HR26 := hide ((unhide HR25).below hB56)
   have HB6 := hide (below_then (unhide HB5) hB56)
   have HRW6 := hide ((unhide HRW5).below hB56)
   have hoT : X < T ∧ R1 < R2 ∧ R2 < C ∧ C < X ∧ w.heap.size ≤ R1 := by omega
   clear hw6 hB56 hT HN5 HZ5 HX5 HR15 HR25 HB5 HRW5 HNR HZR HTR
   have x0 := (unhide HX6).2.1 0 _ rfl
   have x1 := (unhide HX6).2.1 1 _ rfl
   have t0 := (unhide HT6).2.1 0 _ rfl
   have t1 := (unhide HT6).2.1 1 _ rfl
   have t2 := (unhide HT6).2.1 2 _ rfl
   have t3 := (unhide HT6).2.1 3 _ rfl
   have t4 := (unhide HT6).2.1 4 _ rfl
   by_cases hTR : TrainRight n t
   ·refine wp_region_held_drew (S := fun w' => w'.cell? ⟨X, 0, none⟩ = some (.slice a1 n.pieces.length k1) ∧ w'.cell? ⟨X, 1, none⟩ = some (.slice a2 n.joints.length k2) ∧ w'.cell? ⟨T, 0, none⟩ = some (.int .i64 t.front.piece) ∧ w'.cell? ⟨T, 1, none⟩ = some (.int .i64 t.front.at_) ∧ w'.cell? ⟨T, 2, none⟩ = some (.int .i64 t.front.way) ∧ w'.cell? ⟨T, 3, none⟩ = some (.int .i64 t.long) ∧ w'.cell? ⟨T, 4, none⟩ = some (.slice ta t.back.length tc)) (by kernel_rfl) ?_ (fun hHeld => ?_)
    ·exact ⟨by simpa using x0, by simpa using x1, by simpa using t0, by simpa using t1, by simpa using t2, by simpa using t3, by simpa using t4⟩
    refine tkH 0 ?_
    refine tkH 1 ?_
    refine tkH 2 ?_
    refine tkH 3 ?_
    refine tkH 4 ?_
    refine wpAnyH_ready (rs := [5]) (by kernel_rfl) (by simp) ?_
    refine (AllReadyH.cons rfl (fun K hK => ?_) AllReadyH.nil)
    go_simp
    refine (specTrainOk_any _ _ n t _ ((unhide HN6).below bw0) ((stRow_tr (unhide HRW6)).below bw0) (by have := (unhide HSM).pcs; omega) (by have := (unhide HSM).jts; omega) (unhide HSM).hle (unhide HSM).hnm (by have := (unhide HDR).back; omega)).mono ?_
    rintro e w7 ⟨hr, hb7⟩
    have he : e = .returned (.bool true) := by
     rcases hr with ⟨h, h'⟩ | ⟨h, h'⟩
     ·exact h
     ·exact absurd hTR h'
    subst he
    dsimp only
    have hB7 : Below w6.heap.size w6 w7 := below_then bw0 hb7
    have hX7 := (unhide HX6).below hB7
    have hT7 := (unhide HT6).below hB7
    have HB7 := hide hB7
    have xl7 := hX7.1
    have tl7 := hT7.1
    have hH7 : (fun w' => w'.cell? ⟨X, 0, none⟩ = some (.slice a1 n.pieces.length k1) ∧ w'.cell? ⟨X, 1, none⟩ = some (.slice a2 n.joints.length k2) ∧ w'.cell? ⟨T, 0, none⟩ = some (.int .i64 t.front.piece) ∧ w'.cell? ⟨T, 1, none⟩ = some (.int .i64 t.front.at_) ∧ w'.cell? ⟨T, 2, none⟩ = some (.int .i64 t.front.way) ∧ w'.cell? ⟨T, 3, none⟩ = some (.int .i64 t.long) ∧ w'.cell? ⟨T, 4, none⟩ = some (.slice ta t.back.length tc)) w7 := ⟨hX7.2.1 0 _ rfl, hX7.2.1 1 _ rfl, hT7.2.1 0 _ rfl, hT7.2.1 1 _ rfl, hT7.2.1 2 _ rfl, hT7.2.1 3 _ rfl, hT7.2.1 4 _ rfl⟩
    clear hr hb7 hX7 hT7 hB7
    refine hK.out _ _ hH7 (fun hHeld => ?_)
    clear hK K
    (try simp only [sA])
    refine tkH 6 ?_
    refine tkH 7 ?_
    refine tkH 8 ?_
    refine tkH 9 ?_
    refine wpAnyH_ready (rs := [10]) (by kernel_rfl) (by simp) ?_
    refine (AllReadyH.cons rfl (fun K hK => ?_) AllReadyH.nil)
    go_simp
    refine (specSits_any _ _ n zq zs zc t _ ((unhide HN6).below (unhide HB7)) ((IntsAt.below (iRow_ints (unhide HZ6)) (unhide HB7))) ((stRow_tr (unhide HRW6)).below (unhide HB7)) (by have := (unhide HSM).pcs; omega) (by have := (unhide HSM).jts; omega) (unhide HSM).hle (unhide HSM).hnm (by have := (unhide HDR).back; omega)).mono ?_
    rintro e w8 ⟨hr, hb8⟩
    obtain ⟨b, he, hbi⟩ : ∃ b, e = .returned (.bool b) ∧ (b = true ↔ SitsRight n zs t) := by
     rcases hr with ⟨h, h'⟩ | ⟨h, h'⟩
     ·exact ⟨true, h, by simp [h']⟩
     ·exact ⟨false, h, by simp [h']⟩
    subst he
    dsimp only
    have hB8 : Below w6.heap.size w6 w8 := below_then (unhide HB7) hb8
    have hX8 := (unhide HX6).below hB8
    have hT8 := (unhide HT6).below hB8
    have HB8 := hide hB8
    have HBI := hide hbi
    have xl8 := hX8.1
    have tl8 := hT8.1
    have hH8 : (fun w' => w'.cell? ⟨X, 0, none⟩ = some (.slice a1 n.pieces.length k1) ∧ w'.cell? ⟨X, 1, none⟩ = some (.slice a2 n.joints.length k2) ∧ w'.cell? ⟨T, 0, none⟩ = some (.int .i64 t.front.piece) ∧ w'.cell? ⟨T, 1, none⟩ = some (.int .i64 t.front.at_) ∧ w'.cell? ⟨T, 2, none⟩ = some (.int .i64 t.front.way) ∧ w'.cell? ⟨T, 3, none⟩ = some (.int .i64 t.long) ∧ w'.cell? ⟨T, 4, none⟩ = some (.slice ta t.back.length tc)) w8 := ⟨hX8.2.1 0 _ rfl, hX8.2.1 1 _ rfl, hT8.2.1 0 _ rfl, hT8.2.1 1 _ rfl, hT8.2.1 2 _ rfl, hT8.2.1 3 _ rfl, hT8.2.1 4 _ rfl⟩
    clear hr hb8 hX8 hT8 hB8 hbi
    refine hK.out _ _ hH8 (fun hHeld => ?_)
    clear hK K
    (try simp only [sA])
    refine tkH 11 ?_
    refine wpAnyH_ready (rs := [12]) (by kernel_rfl) (by simp) ?_
    refine (AllReadyH.cons rfl (fun K hK => ?_) AllReadyH.nil)
    have hR1w := (unhide HR16).below (unhide HB8)
    have hR2w := (unhide HR26).below (unhide HB8)
    have hXw := (unhide HX6).below (unhide HB8)
    have hTw := (unhide HT6).below (unhide HB8)
    have r0 := hR1w.2.1 0 _ rfl
    have r1 := hR1w.2.1 1 _ rfl
    have rz := hR1w.2.2
    have rl := hR1w.1
    have hO1 := (only_setCell (S := fun k => k = R1) w8 (p := ⟨R1, 0, none⟩) rfl (.slice a1 n.pieces.length k1)).trans (only_setCell (S := fun k => k = R1) _ (p := ⟨R1, 1, none⟩) rfl (.slice a2 n.joints.length k2))
    have hF1 := (hR1w.setI (i := 0) (by simp) (.slice a1 n.pieces.length k1)).setI (i := 1) (by simp) (.slice a2 n.joints.length k2)
    have HF1 := hide hF1
    have hR2x := hR2w.onlyS hO1 (show ¬ R2 = R1 by omega)
    have hXx := hXw.onlyS hO1 (show ¬ X = R1 by omega)
    have hTx := hTw.onlyS hO1 (show ¬ T = R1 by omega)
    have HO1 := hide hO1
    clear hO1 hF1
    go_simp
    obtain ⟨w9, hw9⟩ : ∃ w9, (w8.setCell ⟨R1, 0, none⟩ (.slice a1 n.pieces.length k1)).setCell ⟨R1, 1, none⟩ (.slice a2 n.joints.length k2) = w9 := ⟨_, rfl⟩
    rw [hw9] at HF1 hR2x hXx hTx HO1 ⊢
    clear hw9 r0 r1 rz rl
    have hH9 : (fun w' => w'.cell? ⟨X, 0, none⟩ = some (.slice a1 n.pieces.length k1) ∧ w'.cell? ⟨X, 1, none⟩ = some (.slice a2 n.joints.length k2) ∧ w'.cell? ⟨T, 0, none⟩ = some (.int .i64 t.front.piece) ∧ w'.cell? ⟨T, 1, none⟩ = some (.int .i64 t.front.at_) ∧ w'.cell? ⟨T, 2, none⟩ = some (.int .i64 t.front.way) ∧ w'.cell? ⟨T, 3, none⟩ = some (.int .i64 t.long) ∧ w'.cell? ⟨T, 4, none⟩ = some (.slice ta t.back.length tc)) w9 := ⟨hXx.2.1 0 _ rfl, hXx.2.1 1 _ rfl, hTx.2.1 0 _ rfl, hTx.2.1 1 _ rfl, hTx.2.1 2 _ rfl, hTx.2.1 3 _ rfl, hTx.2.1 4 _ rfl⟩
    refine hK.out _ _ hH9 (fun hHeld => ?_)
    clear hK K
    (try simp only [sA])
    refine tkH 13 ?_
    refine wpAnyH_ready (rs := [14]) (by kernel_rfl) (by simp) ?_
    refine (AllReadyH.cons rfl (fun K hK => ?_) AllReadyH.nil)
    have s0 := hR2x.2.1 0 _ rfl
    have s1 := hR2x.2.1 1 _ rfl
    have s2 := hR2x.2.1 2 _ rfl
    have s3 := hR2x.2.1 3 _ rfl
    have s4 := hR2x.2.1 4 _ rfl
    have sz := hR2x.2.2
    have sl := hR2x.1
    have hO2 := (((((only_setCell (S := fun k => k = R2) w9 (p := ⟨R2, 0, none⟩) rfl (.int .i64 t.front.piece)).trans (only_setCell (S := fun k => k = R2) _ (p := ⟨R2, 1, none⟩) rfl (.int .i64 t.front.at_))).trans (only_setCell (S := fun k => k = R2) _ (p := ⟨R2, 2, none⟩) rfl (.int .i64 t.front.way))).trans (only_setCell (S := fun k => k = R2) _ (p := ⟨R2, 3, none⟩) rfl (.int .i64 t.long))).trans (only_setCell (S := fun k => k = R2) _ (p := ⟨R2, 4, none⟩) rfl (.slice ta t.back.length tc)))
    have hF2 := (((((hR2x.setI (i := 0) (by simp) (.int .i64 t.front.piece)).setI (i := 1) (by simp) (.int .i64 t.front.at_)).setI (i := 2) (by simp) (.int .i64 t.front.way)).setI (i := 3) (by simp) (.int .i64 t.long)).setI (i := 4) (by simp) (.slice ta t.back.length tc))
    have HF2 := hide hF2
    have hF1y := (unhide HF1).onlyS hO2 (show ¬ R1 = R2 by omega)
    have hXy := hXx.onlyS hO2 (show ¬ X = R2 by omega)
    have hTy := hTx.onlyS hO2 (show ¬ T = R2 by omega)
    have HF1y := hide hF1y
    have HO2 := hide hO2
    clear hO2 hF2 hF1y
    go_simp
    obtain ⟨wz, hwz⟩ : ∃ wz, (((((w9.setCell ⟨R2, 0, none⟩ (.int .i64 t.front.piece)).setCell ⟨R2, 1, none⟩ (.int .i64 t.front.at_)).setCell ⟨R2, 2, none⟩ (.int .i64 t.front.way)).setCell ⟨R2, 3, none⟩ (.int .i64 t.long)).setCell ⟨R2, 4, none⟩ (.slice ta t.back.length tc)) = wz := ⟨_, rfl⟩
    rw [hwz] at HF2 HF1y hXy hTy HO2 ⊢
    clear hwz s0 s1 s2 s3 s4 sz sl
    have hHz : (fun w' => w'.cell? ⟨X, 0, none⟩ = some (.slice a1 n.pieces.length k1) ∧ w'.cell? ⟨X, 1, none⟩ = some (.slice a2 n.joints.length k2) ∧ w'.cell? ⟨T, 0, none⟩ = some (.int .i64 t.front.piece) ∧ w'.cell? ⟨T, 1, none⟩ = some (.int .i64 t.front.at_) ∧ w'.cell? ⟨T, 2, none⟩ = some (.int .i64 t.front.way) ∧ w'.cell? ⟨T, 3, none⟩ = some (.int .i64 t.long) ∧ w'.cell? ⟨T, 4, none⟩ = some (.slice ta t.back.length tc)) wz := ⟨hXy.2.1 0 _ rfl, hXy.2.1 1 _ rfl, hTy.2.1 0 _ rfl, hTy.2.1 1 _ rfl, hTy.2.1 2 _ rfl, hTy.2.1 3 _ rfl, hTy.2.1 4 _ rfl⟩
    refine hK.out _ _ hHz (fun hHeld => ?_)
    clear hK K
    (try simp only [sA])
    refine tkH 15 ?_
    refine wpAnyH_done (by kernel_rfl) ?_ _

    have f0 := (unhide HF1y).2.1 0 _ rfl
    have f1 := (unhide HF1y).2.1 1 _ rfl
    have g0 := (unhide HF2).2.1 0 _ rfl
    have g1 := (unhide HF2).2.1 1 _ rfl
    have g2 := (unhide HF2).2.1 2 _ rfl
    have g3 := (unhide HF2).2.1 3 _ rfl
    have g4 := (unhide HF2).2.1 4 _ rfl
    have HFG := hide (And.intro f0 (And.intro f1 (And.intro g0 (And.intro g1 (And.intro g2 (And.intro g3 g4))))))
    clear f0 f1 g0 g1 g2 g3 g4 hXy hTy hHz hHeld
    go_wp2_with fail
    obtain ⟨f0, f1, g0, g1, g2, g3, g4⟩ := unhide HFG
    refine bodyPost_ret (v := .tuple #[.agg #[.slice a1 n.pieces.length k1, .slice a2 n.joints.length k2], .slice zq zs.length zc, .agg #[.int .i64 t.front.piece, .int .i64 t.front.at_, .int .i64 t.front.way, .int .i64 t.long, .slice ta t.back.length tc], .bool b]) (by simp [results, Tryz.results4, go_sem, f0, f1, g0, g1, g2, g3, g4]) rfl ?_
    have hK1 : Keeps wb.heap.size w6 wz := ((keeps_below _ (unhide HB8)).trans ⟨(unhide HO1).size, fun k hk hlt => (unhide HO1).block k hlt (show ¬ k = R1 by omega)⟩).trans ⟨(unhide HO2).size, fun k hk hlt => (unhide HO2).block k hlt (show ¬ k = R2 by omega)⟩
    have hsW := (unhide HB8).size
    have hsR := (unhide HRW6).lt
    refine ⟨_, n, zq, zs, zc, t, ta, tc, b, rfl, unhide HDR, ⟨fun h => ⟨hTR, (unhide HBI).1 h⟩, fun h => (unhide HBI).2 h.2⟩, ((unhide HN6).keeps hK1).mono (by omega), ?_, ?_, ?_⟩
    ·exact ((unhide HZ6).block fun k hk => hK1.2 k (by have := ((unhide HZ6).lt k hk).1; omega) ((unhide HZ6).lt k hk).2).mono (by omega)
    ·exact ((unhide HRW6).block fun k hk => hK1.2 k (by have := (hsR k hk).1; omega) (hsR k hk).2).mono (by omega)
    ·exact (((unhide HB6).trans ((unhide HB8).mono (by have := (unhide HB6).size; omega))).trans ((unhide HO1).below (by have := (unhide HB6).size; omega) (fun k hk (e : k = R1) => by omega))).trans ((unhide HO2).below (by have := (unhide HB6).size; have := (unhide HO1).size; omega) (fun k hk (e : k = R2) => by omega))
   ·refine wp_region_held_drew (S := fun w' => w'.cell? ⟨X, 0, none⟩ = some (.slice a1 n.pieces.length k1) ∧ w'.cell? ⟨X, 1, none⟩ = some (.slice a2 n.joints.length k2) ∧ w'.cell? ⟨T, 0, none⟩ = some (.int .i64 t.front.piece) ∧ w'.cell? ⟨T, 1, none⟩ = some (.int .i64 t.front.at_) ∧ w'.cell? ⟨T, 2, none⟩ = some (.int .i64 t.front.way) ∧ w'.cell? ⟨T, 3, none⟩ = some (.int .i64 t.long) ∧ w'.cell? ⟨T, 4, none⟩ = some (.slice ta t.back.length tc)) (by kernel_rfl) ?_ (fun hHeld => ?_)
    ·exact ⟨by simpa using x0, by simpa using x1, by simpa using t0, by simpa using t1, by simpa using t2, by simpa using t3, by simpa using t4⟩
    refine tkH 0 ?_
    refine tkH 1 ?_
    refine tkH 2 ?_
    refine tkH 3 ?_
    refine tkH 4 ?_
    refine wpAnyH_ready (rs := [5]) (by kernel_rfl) (by simp) ?_
    refine (AllReadyH.cons rfl (fun K hK => ?_) AllReadyH.nil)
    go_simp
    refine (specTrainOk_any _ _ n t _ ((unhide HN6).below bw0) ((stRow_tr (unhide HRW6)).below bw0) (by have := (unhide HSM).pcs; omega) (by have := (unhide HSM).jts; omega) (unhide HSM).hle (unhide HSM).hnm (by have := (unhide HDR).back; omega)).mono ?_
    rintro e w7 ⟨hr, hb7⟩
    have he : e = .returned (.bool false) := by
     rcases hr with ⟨h, h'⟩ | ⟨h, h'⟩
     ·exact absurd h' hTR
     ·exact h
    subst he
    dsimp only
    have hB7 : Below w6.heap.size w6 w7 := below_then bw0 hb7
    have hX7 := (unhide HX6).below hB7
    have hT7 := (unhide HT6).below hB7
    have HB7 := hide hB7
    have xl7 := hX7.1
    have tl7 := hT7.1
    have hH7 : (fun w' => w'.cell? ⟨X, 0, none⟩ = some (.slice a1 n.pieces.length k1) ∧ w'.cell? ⟨X, 1, none⟩ = some (.slice a2 n.joints.length k2) ∧ w'.cell? ⟨T, 0, none⟩ = some (.int .i64 t.front.piece) ∧ w'.cell? ⟨T, 1, none⟩ = some (.int .i64 t.front.at_) ∧ w'.cell? ⟨T, 2, none⟩ = some (.int .i64 t.front.way) ∧ w'.cell? ⟨T, 3, none⟩ = some (.int .i64 t.long) ∧ w'.cell? ⟨T, 4, none⟩ = some (.slice ta t.back.length tc)) w7 := ⟨hX7.2.1 0 _ rfl, hX7.2.1 1 _ rfl, hT7.2.1 0 _ rfl, hT7.2.1 1 _ rfl, hT7.2.1 2 _ rfl, hT7.2.1 3 _ rfl, hT7.2.1 4 _ rfl⟩
    clear hr hb7 hX7 hT7 hB7
    refine hK.out _ _ hH7 (fun hHeld => ?_)
    clear hK K
    (try simp only [sA])
    refine tkH 6 ?_
    refine tkU 7 ?_
    refine tkU 8 ?_
    refine tkU 9 ?_
    refine tkU 10 ?_
    refine tkH 11 ?_
    refine wpAnyH_ready (rs := [12]) (by kernel_rfl) (by simp) ?_
    refine (AllReadyH.cons rfl (fun K hK => ?_) AllReadyH.nil)
    have hR1w := (unhide HR16).below (unhide HB7)
    have hR2w := (unhide HR26).below (unhide HB7)
    have hXw := (unhide HX6).below (unhide HB7)
    have hTw := (unhide HT6).below (unhide HB7)
    have r0 := hR1w.2.1 0 _ rfl
    have r1 := hR1w.2.1 1 _ rfl
    have rz := hR1w.2.2
    have rl := hR1w.1
    have hO1 := (only_setCell (S := fun k => k = R1) w7 (p := ⟨R1, 0, none⟩) rfl (.slice a1 n.pieces.length k1)).trans (only_setCell (S := fun k => k = R1) _ (p := ⟨R1, 1, none⟩) rfl (.slice a2 n.joints.length k2))
    have hF1 := (hR1w.setI (i := 0) (by simp) (.slice a1 n.pieces.length k1)).setI (i := 1) (by simp) (.slice a2 n.joints.length k2)
    have HF1 := hide hF1
    have hR2x := hR2w.onlyS hO1 (show ¬ R2 = R1 by omega)
    have hXx := hXw.onlyS hO1 (show ¬ X = R1 by omega)
    have hTx := hTw.onlyS hO1 (show ¬ T = R1 by omega)
    have HO1 := hide hO1
    clear hO1 hF1
    go_simp
    obtain ⟨w9, hw9⟩ : ∃ w9, (w7.setCell ⟨R1, 0, none⟩ (.slice a1 n.pieces.length k1)).setCell ⟨R1, 1, none⟩ (.slice a2 n.joints.length k2) = w9 := ⟨_, rfl⟩
    rw [hw9] at HF1 hR2x hXx hTx HO1 ⊢
    clear hw9 r0 r1 rz rl
    have hH9 : (fun w' => w'.cell? ⟨X, 0, none⟩ = some (.slice a1 n.pieces.length k1) ∧ w'.cell? ⟨X, 1, none⟩ = some (.slice a2 n.joints.length k2) ∧ w'.cell? ⟨T, 0, none⟩ = some (.int .i64 t.front.piece) ∧ w'.cell? ⟨T, 1, none⟩ = some (.int .i64 t.front.at_) ∧ w'.cell? ⟨T, 2, none⟩ = some (.int .i64 t.front.way) ∧ w'.cell? ⟨T, 3, none⟩ = some (.int .i64 t.long) ∧ w'.cell? ⟨T, 4, none⟩ = some (.slice ta t.back.length tc)) w9 := ⟨hXx.2.1 0 _ rfl, hXx.2.1 1 _ rfl, hTx.2.1 0 _ rfl, hTx.2.1 1 _ rfl, hTx.2.1 2 _ rfl, hTx.2.1 3 _ rfl, hTx.2.1 4 _ rfl⟩
    refine hK.out _ _ hH9 (fun hHeld => ?_)
    clear hK K
    (try simp only [sA])
    refine tkH 13 ?_
    refine wpAnyH_ready (rs := [14]) (by kernel_rfl) (by simp) ?_
    refine (AllReadyH.cons rfl (fun K hK => ?_) AllReadyH.nil)
    have s0 := hR2x.2.1 0 _ rfl
    have s1 := hR2x.2.1 1 _ rfl
    have s2 := hR2x.2.1 2 _ rfl
    have s3 := hR2x.2.1 3 _ rfl
    have s4 := hR2x.2.1 4 _ rfl
    have sz := hR2x.2.2
    have sl := hR2x.1
    have hO2 := (((((only_setCell (S := fun k => k = R2) w9 (p := ⟨R2, 0, none⟩) rfl (.int .i64 t.front.piece)).trans (only_setCell (S := fun k => k = R2) _ (p := ⟨R2, 1, none⟩) rfl (.int .i64 t.front.at_))).trans (only_setCell (S := fun k => k = R2) _ (p := ⟨R2, 2, none⟩) rfl (.int .i64 t.front.way))).trans (only_setCell (S := fun k => k = R2) _ (p := ⟨R2, 3, none⟩) rfl (.int .i64 t.long))).trans (only_setCell (S := fun k => k = R2) _ (p := ⟨R2, 4, none⟩) rfl (.slice ta t.back.length tc)))
    have hF2 := (((((hR2x.setI (i := 0) (by simp) (.int .i64 t.front.piece)).setI (i := 1) (by simp) (.int .i64 t.front.at_)).setI (i := 2) (by simp) (.int .i64 t.front.way)).setI (i := 3) (by simp) (.int .i64 t.long)).setI (i := 4) (by simp) (.slice ta t.back.length tc))
    have HF2 := hide hF2
    have hF1y := (unhide HF1).onlyS hO2 (show ¬ R1 = R2 by omega)
    have hXy := hXx.onlyS hO2 (show ¬ X = R2 by omega)
    have hTy := hTx.onlyS hO2 (show ¬ T = R2 by omega)
    have HF1y := hide hF1y
    have HO2 := hide hO2
    clear hO2 hF2 hF1y
    go_simp
    obtain ⟨wz, hwz⟩ : ∃ wz, (((((w9.setCell ⟨R2, 0, none⟩ (.int .i64 t.front.piece)).setCell ⟨R2, 1, none⟩ (.int .i64 t.front.at_)).setCell ⟨R2, 2, none⟩ (.int .i64 t.front.way)).setCell ⟨R2, 3, none⟩ (.int .i64 t.long)).setCell ⟨R2, 4, none⟩ (.slice ta t.back.length tc)) = wz := ⟨_, rfl⟩
    rw [hwz] at HF2 HF1y hXy hTy HO2 ⊢
    clear hwz s0 s1 s2 s3 s4 sz sl
    have hHz : (fun w' => w'.cell? ⟨X, 0, none⟩ = some (.slice a1 n.pieces.length k1) ∧ w'.cell? ⟨X, 1, none⟩ = some (.slice a2 n.joints.length k2) ∧ w'.cell? ⟨T, 0, none⟩ = some (.int .i64 t.front.piece) ∧ w'.cell? ⟨T, 1, none⟩ = some (.int .i64 t.front.at_) ∧ w'.cell? ⟨T, 2, none⟩ = some (.int .i64 t.front.way) ∧ w'.cell? ⟨T, 3, none⟩ = some (.int .i64 t.long) ∧ w'.cell? ⟨T, 4, none⟩ = some (.slice ta t.back.length tc)) wz := ⟨hXy.2.1 0 _ rfl, hXy.2.1 1 _ rfl, hTy.2.1 0 _ rfl, hTy.2.1 1 _ rfl, hTy.2.1 2 _ rfl, hTy.2.1 3 _ rfl, hTy.2.1 4 _ rfl⟩
    refine hK.out _ _ hHz (fun hHeld => ?_)
    clear hK K
    (try simp only [sA])
    refine tkH 15 ?_
    refine wpAnyH_done (by kernel_rfl) ?_ _

    have f0 := (unhide HF1y).2.1 0 _ rfl
    have f1 := (unhide HF1y).2.1 1 _ rfl
    have g0 := (unhide HF2).2.1 0 _ rfl
    have g1 := (unhide HF2).2.1 1 _ rfl
    have g2 := (unhide HF2).2.1 2 _ rfl
    have g3 := (unhide HF2).2.1 3 _ rfl
    have g4 := (unhide HF2).2.1 4 _ rfl
    have HFG := hide (And.intro f0 (And.intro f1 (And.intro g0 (And.intro g1 (And.intro g2 (And.intro g3 g4))))))
    clear f0 f1 g0 g1 g2 g3 g4 hXy hTy hHz hHeld
    go_wp2_with fail
    obtain ⟨f0, f1, g0, g1, g2, g3, g4⟩ := unhide HFG
    refine bodyPost_ret (v := .tuple #[.agg #[.slice a1 n.pieces.length k1, .slice a2 n.joints.length k2], .slice zq zs.length zc, .agg #[.int .i64 t.front.piece, .int .i64 t.front.at_, .int .i64 t.front.way, .int .i64 t.long, .slice ta t.back.length tc], .bool false]) (by simp [results, Tryz.results4, go_sem, f0, f1, g0, g1, g2, g3, g4]) rfl ?_
    have hK1 : Keeps wb.heap.size w6 wz := ((keeps_below _ (unhide HB7)).trans ⟨(unhide HO1).size, fun k hk hlt => (unhide HO1).block k hlt (show ¬ k = R1 by omega)⟩).trans ⟨(unhide HO2).size, fun k hk hlt => (unhide HO2).block k hlt (show ¬ k = R2 by omega)⟩
    have hsW := (unhide HB7).size
    have hsR := (unhide HRW6).lt
    refine ⟨_, n, zq, zs, zc, t, ta, tc, false, rfl, unhide HDR, ⟨fun h => (by cases h), fun h => absurd h.1 hTR⟩, ((unhide HN6).keeps hK1).mono (by omega), ?_, ?_, ?_⟩
    ·exact ((unhide HZ6).block fun k hk => hK1.2 k (by have := ((unhide HZ6).lt k hk).1; omega) ((unhide HZ6).lt k hk).2).mono (by omega)
    ·exact ((unhide HRW6).block fun k hk => hK1.2 k (by have := (hsR k hk).1; omega) (hsR k hk).2).mono (by omega)
    ·exact (((unhide HB6).trans ((unhide HB7).mono (by have := (unhide HB6).size; omega))).trans ((unhide HO1).below (by have := (unhide HB6).size; omega) (fun k hk (e : k = R1) => by omega))).trans ((unhide HO2).below (by have := (unhide HB6).size; have := (unhide HO1).size; omega) (fun k hk (e : k = R2) => by omega))
end Go.Proofs.YtjacbppeebnjfaaGreat

