import Derived.Test.YtbdggfpfpjijoaaGreatDoorMDr11
import Derived.Test.YtbdggfpfpjijoaaGreatDoorMSp4
namespace Go.Proofs.YtbdggfpfpjijoaaGreatDoor
open Go.RowKit

def iF (z : Int) : List Value := [.int .i64 z]
theorem iF_len (z : Int) : (iF z).length = 1 := rfl
abbrev IRow (w : World) (base : Nat) (v : Value) (zs : List Int) : Prop := Row w base 3 1 iF v zs
theorem i_one (x : Int) : ∀ u ∈ iF x, u.oneCell' = true := by
 intro u hu
 simp [iF] at hu
 subst hu
 rfl
theorem iRow_at {w : World} {base : Nat} {v : Value} {zs : List Int} (h : IRow w base v zs) : ∃ a cap, v = .slice a zs.length cap ∧ IntsAt base w a zs := by
 obtain ⟨a, cap, e, _, hc⟩ := h.shape iF_len
 refine ⟨a, cap, e, fun i hi => ?_⟩
 obtain ⟨g, rfl, hl, hcell⟩ := hc i hi
 exact ⟨g, 0, rfl, hl, by simpa [iF] using hcell 0 (by omega)⟩
theorem iRow_ints {w : World} {base : Nat} {a : Option Addr} {cap : Nat} {zs : List Int} (h : IRow w base (.slice a zs.length cap) zs) : IntsAt base w a zs := by
 obtain ⟨a', cap', e, h1⟩ := iRow_at h
 simp at e
 rw [e.1]
 exact h1

structure DrW (C base0 : Nat) (bs : List Int) (w3 : World) (c : Cu) (u : Value) (zs : List Int) (w : World) : Prop where
 cur : CurAt w C bs c
 row : IRow w base0 u zs
 but : But (fun k => k = C) base0 w3 w
 base_ : base0 ≤ w.heap.size
theorem DrW.draw {C base0 : Nat} {bs : List Int} {w3 w w' : World} {c c' : Cu} {u : Value} {zs : List Int} (h : DrW C base0 bs w3 c u zs w) (ho : Only (fun k => k = C) w w') (hc : CurAt w' C bs c') (hC : C < base0) : DrW C base0 bs w3 c' u zs w' :=
 ⟨hc, h.row.only ho (fun k hk (e : k = C) => by have := (h.row.lt k hk).1; omega), h.but.trans (but_only ho (fun _ _ e => e) h.base_), Nat.le_trans h.base_ ho.size⟩
theorem DrW.below {C base0 : Nat} {bs : List Int} {w3 w w' : World} {c : Cu} {u : Value} {zs : List Int} (h : DrW C base0 bs w3 c u zs w) (hb : Below w.heap.size w w') : DrW C base0 bs w3 c u zs w' :=
 ⟨h.cur.below hb, h.row.below hb, h.but.trans (but_below hb h.base_), Nat.le_trans h.base_ hb.size⟩
theorem DrW.add {C base0 : Nat} {bs : List Int} {w3 w w' : World} {c : Cu} {u u' : Value} {zs zs' : List Int} (h : DrW C base0 bs w3 c u zs w) (hg : w.grownBy w' u.ownBlock) (hrow : IRow w' base0 u' zs') (hC : C < base0) : DrW C base0 bs w3 c u' zs' w' := by
 have hne : ∀ k, u.ownBlock = some k → base0 ≤ k := fun k hk => (h.row.lt k hk).1
 have hb : Below base0 w w' := Below.grown (Below.refl base0 w) hg h.base_ hne
 exact ⟨h.cur.of_below hb hC, hrow, h.but.trans (but_below hb (Nat.le_refl _)), Nat.le_trans h.base_ hb.size⟩

end Go.Proofs.YtbdggfpfpjijoaaGreatDoor

set_option linter.unusedSimpArgs false
namespace Go.Proofs.YtbdggfpfpjijoaaGreatDoor
open Go.RowKit

def RetLs (C : Nat) (bs : List Int) (J M : Nat) (w : World) (e : Ending) (w' : World) : Prop := ∃ a zs cap c', e = .returned (.slice a (zs : List Int).length cap) ∧ IntsAt w.heap.size w' a zs ∧ zs.length ≤ J ∧ CurAt w' C bs c' ∧ But (fun k => k = C) w.heap.size w w' ∧ c'.at_ ≤ M
theorem DrW.ret {C base0 : Nat} {bs : List Int} {w0 w3 w : World} {c : Cu} {a : Option Addr} {cap : Nat} {zs : List Int} (h : DrW C base0 bs w3 c (.slice a zs.length cap) zs w) (hb : Below w0.heap.size w0 w3) (h0 : w0.heap.size ≤ base0) {J M : Nat} (hJ : zs.length ≤ J) (hM : c.at_ ≤ M) : RetLs C bs J M w0 (.returned (.slice a zs.length cap)) w :=
 ⟨a, zs, cap, c, rfl, (iRow_ints h.row).mono h0, hJ, h.cur, (but_of_below hb).trans (h.but.mono h0 (fun _ _ e => e)), hM⟩

theorem DrW.set {C base0 : Nat} {bs : List Int} {w3 w : World} {c : Cu} {g m cap : Nat} {zs : List Int} (h : DrW C base0 bs w3 c (.slice (some ⟨g, 0, none⟩) m cap) zs w) {k : Nat} (hk : k < zs.length) (x : Int) (hC : C < base0) : DrW C base0 bs w3 c (.slice (some ⟨g, 0, none⟩) (zs.set k x).length cap) (zs.set k x) (w.setCell ⟨g, k, none⟩ (.int .i64 x)) := by
 have hg := h.row.lt g rfl
 have ho : Only (fun j => j = g) w (w.setCell ⟨g, k, none⟩ (.int .i64 x)) := only_setCell (S := fun j => j = g) w (p := ⟨g, k, none⟩) rfl _
 have hm : m = zs.length := by
  obtain ⟨_, _, e, _⟩ := iRow_at h.row
  simp only [Value.slice.injEq] at e
  exact e.2.1
 have hr := h.row.put iF_len hk (j := 0) (by omega) x (.int .i64 x) rfl
 simp only [Nat.mul_one, Nat.add_zero] at hr
 rw [List.length_set, ← hm]
 exact ⟨h.cur.of_below (ho.below (B := base0) h.base_ (fun j hj e => by omega)) hC, hr, h.but.trans (but_only ho (fun j hj e => by omega) h.base_), Nat.le_trans h.base_ ho.size⟩

set_option maxRecDepth 100000 in
set_option maxHeartbeats 4000000 in
theorem lies_any (C : Nat) (bs : List Int) (c : Cu) (v : Value) (n : Nt) (w : World) (hcu : CurAt w C bs c) (hbs : BytesIn bs) (ha : c.at_ ≤ 100000) (hv : NetK C w v n) (hl : n.joints.length ≤ 5000) :
  Calls Tryz.prog 135 #[.pointer (some ⟨C, 0, none⟩), v] w (RetLs C bs n.joints.length (c.at_ + 30000) w) := by
 have hCl := hcu.lt
 obtain ⟨i1, hj1, hy0, hy1, hy2⟩ := info_parts info_Int
 obtain ⟨a1, a2, k1, k2, rfl, _, _⟩ := hv.now
 have HCU := hide hcu
 have HV := hide hv
 clear hcu hv
 obtain ⟨J, hJ⟩ : ∃ J, n.joints.length = J := ⟨_, rfl⟩
 have HJL := hide hJ
 rw [hJ] at hl
 obtain ⟨w3, hw3⟩ : ∃ w3, w.alloc (.cells #[.slice a1 n.pieces.length k1, .slice a2 n.joints.length k2] 26) = w3 := ⟨_, rfl⟩
 have hB3 : Below w.heap.size w w3 := by rw [← hw3]; exact bw0
 have hX : Boxed w3 w.heap.size [.slice a1 n.pieces.length k1, .slice a2 n.joints.length k2] := by rw [← hw3]; exact boxed_alloc _ _ _
 have hs3 : w3.heap.size = w.heap.size + 1 := by rw [← hw3]; simp
 rw [hJ] at hX hw3
 rw [hJ]
 have HV3 := hide ((unhide HV).on (but_of_below hB3))
 have HT0 : Hid (DrW C w3.heap.size bs w3 c (.slice none 0 0) [] w3) := ⟨(unhide HCU).of_below hB3 hCl, Row.nil _ _ _ _ _, But.refl _ _ _, Nat.le_refl _⟩
 have HB3 := hide hB3
 have x1 := hX.2.1 1 _ rfl
 have xl := hX.1
 have hlt3 : w.heap.size < w3.heap.size := by omega
 clear hJ hB3 hX HV hs3
 go_enter Tryz.func135, Tryz.ntmps135
 go_upto_region 2 with fail
 clear hw3
 go_wp2_with fail
 clear x1 xl
 go_loopw [5, 12] (fun y z wr => ∃ (i : Nat) (zs : List Int) (c2 : Cu), z = .int .i64 i ∧ i ≤ J ∧ Hid (zs.length = i) ∧ c2.at_ ≤ c.at_ + 4 * i ∧ Hid (DrW C w3.heap.size bs w3 c2 y zs wr)) (fun _ z _ => J - (intOf z).toNat)
 case atStart => exact ⟨0, [], c, rfl, Nat.zero_le _, rfl, by omega, HT0⟩
 case round =>
  clear HT0
  obtain ⟨i, zs, c2, rfl, hi, HLZ, hat, HTR⟩ := hrel
  have hb0 := (unhide HTR).base_
  by_cases hlt : i < J
  ·have hlt' : (i : Int) < (J : Int) := by omega
   have hlt2 : i < n.joints.length := by rw [unhide HJL]; exact hlt
   obtain ⟨jb, joff, ea, ec, hae, hjb, p0, p1, p2, _⟩ := (by
    obtain ⟨_, _, _, _, he, _, hj⟩ := unhide HV3 wr (unhide HTR).but
    simp only [Value.agg.injEq, Array.mk.injEq, List.cons.injEq, Value.slice.injEq, and_true] at he
    rw [← he.2.1] at hj
    exact hj : JtsAt 0 wr a2 n.joints) i hlt2
   have hjw := hjb.2
   obtain ⟨⟨kd, nm, es⟩, hjt⟩ : ∃ jt, n.joints[i] = jt := ⟨_, rfl⟩
   rw [hjt] at p0 p1 p2
   dsimp only at p0 p1 p2
   subst hae
   clear hjt
   have hwi : IntKind.i64.wrap ((i : Int) + 1) = ((i + 1 : Nat) : Int) := (wrap_small (by omega) (by omega)).trans (by omega)
   have hzl : zs.length ≤ 1000000 := by rw [unhide HLZ]; omega
   have HTB := hide ((unhide HTR).below (bw0 : Below _ _ (wr.alloc (.cells #[.int .i64 kd, .string nm, .slice ea es.length ec] 76))))
   go_upto_if 18 with fail
   go_cut [5, 8] (fun y x wx => ∃ (r : Int) (c' : Cu), x = .int .i64 r ∧ c'.at_ ≤ c2.at_ + 4 ∧ Hid (DrW C w3.heap.size bs w3 c' y zs wx))
   case first =>
    by_cases h3 : kd = 3
    ·subst h3
     have hpi := pickC_in bs c2 2
     have hpa := pickC_at bs c2 2
     go_wp2_with fail
     refine (pick_any C bs c2 2 _ (unhide HTB).cur hbs (by omega) (by omega)).mono ?_
     rintro e wA ⟨rfl, hcA, hoA⟩
     have HTA := hide ((unhide HTB).draw hoA hcA (by omega))
     obtain ⟨⟨P, c3⟩, hpc⟩ : ∃ y, pickC bs c2 2 = y := ⟨_, rfl⟩
     rw [hpc] at hpi hpa HTA ⊢
     dsimp only at hpi hpa HTA ⊢
     have hw1 : IntKind.i64.wrap (1 + P) = 1 + P := wrap_small (by omega) (by omega)
     have hpi2 := pickC_in bs c3 14
     have hpa2 := pickC_at bs c3 14
     clear hcA hoA hpc p0 p1 p2
     go_wp2_with fail
     refine (pick_any C bs c3 14 _ (unhide HTA).cur hbs (by omega) (by omega)).mono ?_
     rintro e wB ⟨rfl, hcB, hoB⟩
     have HTC := hide ((unhide HTA).draw hoB hcB (by omega))
     obtain ⟨⟨Q, c4⟩, hpc⟩ : ∃ y, pickC bs c3 14 = y := ⟨_, rfl⟩
     rw [hpc] at hpi2 hpa2 HTC ⊢
     dsimp only at hpi2 hpa2 HTC ⊢
     clear hcB hoB hpc
     by_cases hq : Q = 0
     ·subst hq
      go_wp2_with fail
      go_meet
      exact ⟨_, c4, rfl, by omega, HTC⟩
     ·have hq' : (Q == 0) = false := by simpa using hq
      go_wp2_with fail
      go_meet
      exact ⟨_, c4, rfl, by omega, HTC⟩
    ·have h3' : (kd == 3) = false := by simpa using h3
     go_wp2_with fail
     go_meet
     exact ⟨_, c2, rfl, by omega, HTB⟩
   case rest =>
    obtain ⟨r, c', rfl, hat', HTA⟩ := hcut
    have hbA := (unhide HTA).base_
    clear p0 p1 p2 hjb hjw
    go_wp2_with (at_builtin; refine wpList_append_own _ rfl (.tmp 25) (.tmp 27) 27 rfl w3.heap.size 3 i1 (.int .i64 0) 1 8 Tryz.underlying27 hj1 hy0 hy1 hy2 rfl (by decide) _ _ _ rfl ((unhide HTA).row.below bw0) ⟨wc.heap.size, 0, none⟩ 1 1 (iF r) rfl rfl ?c1 (i_one _) ?c2 ?c3 ?c4 ?_)
    case c1 => (first | exact fun _ _ h => h | exact box_news (boxedN _ _ _ (by first | rfl | simp)))
    case c2 => unfold maxLen; omega
    case c3 => omega
    case c4 => (first | omega | (simp; omega))
    intro u' w9 hown9 hgrow9 _
    have hrow9 : IRow w9 w3.heap.size u' (zs ++ [r]) := Row.snoc (f := iF) hown9
    have HT9 := hide (((unhide HTA).below (bw0 : Below _ _ (wc.alloc (.cells #[.int .i64 r] 3)))).add hgrow9 hrow9 (by omega))
    clear hown9 hgrow9 hrow9
    go_wp2_with fail
    exact ⟨⟨i + 1, zs ++ [r], c', rfl, by omega, by unfold Hid; rw [List.length_append, List.length_singleton, unhide HLZ], by omega, HT9⟩, by simp [intOf]; omega⟩
  ·have hlt' : ¬ (i : Int) < (J : Int) := by omega
   have hiJ : i = J := by omega
   subst hiJ
   obtain ⟨zq, zc, hzv, hzi⟩ := iRow_at (unhide HTR).row
   subst hzv
   have hpi := pickC_in bs c2 40
   have hpa := pickC_at bs c2 40
   clear hzi
   have hzl : zs.length ≤ 5000 := by rw [unhide HLZ]; omega
   go_wp2_with fail
   refine (pick_any C bs c2 40 _ (unhide HTR).cur hbs (by omega) (by omega)).mono ?_
   rintro e w4 ⟨rfl, hc4, ho4⟩
   have HT4 := hide ((unhide HTR).draw ho4 hc4 (by omega))
   obtain ⟨⟨P, c3⟩, hpc⟩ : ∃ y, pickC bs c2 40 = y := ⟨_, rfl⟩
   rw [hpc] at hpi hpa HT4 ⊢
   dsimp only at hpi hpa HT4 ⊢
   clear hc4 ho4 hpc
   by_cases hz : P = 0
   ·subst hz
    by_cases hz2 : 0 < zs.length
    ·have hz2' : (0 : Int) < (zs.length : Int) := by omega
     have hpi2 := pickC_in bs c3 2
     have hpa2 := pickC_at bs c3 2
     have hgs : ∃ g, zq = some ⟨g, 0, none⟩ ∧ zs.length ≤ zc := by
      obtain ⟨_, ⟨h1, h2⟩ | ⟨g, cap, cur, h1, _, _, h4, _⟩⟩ := (unhide HT4).row
      ·simp only [Value.slice.injEq] at h1
       omega
      ·simp only [Value.slice.injEq] at h1
       exact ⟨g, h1.1, by omega⟩
     obtain ⟨g, rfl, hcap⟩ := hgs
     go_wp2_with fail
     refine (pick_any C bs c3 2 _ (unhide HT4).cur hbs (by omega) (by omega)).mono ?_
     rintro e w5 ⟨rfl, hc5, ho5⟩
     have HT5 := hide ((unhide HT4).draw ho5 hc5 (by omega))
     obtain ⟨⟨Q, c4⟩, hpc⟩ : ∃ y, pickC bs c3 2 = y := ⟨_, rfl⟩
     rw [hpc] at hpi2 hpa2 HT5 ⊢
     dsimp only at hpi2 hpa2 HT5 ⊢
     clear hc5 ho5 hpc
     by_cases hq : Q = 0
     ·subst hq
      have hdl : (zs.drop 1).length = zs.length - 1 := by simp
      have HD : Hid (∀ a cap, (zs.length = 1 ∨ a = some ⟨g, 1, none⟩) → RetLs C bs i (c.at_ + 30000) w (.returned (.slice a (zs.length - 1) cap)) w5) := by
       intro a cap hor
       refine ⟨a, zs.drop 1, cap, c4, by rw [hdl], fun j hj => ?_, by rw [hdl]; have := unhide HLZ; omega, (unhide HT5).cur, (but_of_below (unhide HB3)).trans ((unhide HT5).but.mono (by omega) (fun _ _ e => e)), by omega⟩
       rw [hdl] at hj
       obtain ⟨b', off', hbe, hbl, q0⟩ := iRow_ints (unhide HT5).row (1 + j) (by omega)
       simp only [Option.some.injEq, Addr.mk.injEq, and_true] at hbe
       obtain ⟨rfl, rfl⟩ := hbe
       rcases hor with h | h
       ·omega
       ·refine ⟨g, 1, h, ⟨by omega, hbl.2⟩, ?_⟩
        rw [Nat.zero_add] at q0
        rw [List.getElem_drop]
        exact q0
      clear hdl
      by_cases hc1 : zc = 1
      ·subst hc1
       have hz1 : zs.length = 1 := by omega
       go_wp2_with fail
       have hR := unhide HD (some ⟨g, 0, none⟩) 0 (Or.inl hz1)
       rw [hz1] at hR
       exact bodyPost_ret (v := .slice (some ⟨g, 0, none⟩) 0 0) (by simp [results, Tryz.results135, go_sem]) rfl hR
      ·have hc1' : ¬ zc - 1 = 0 := by omega
       go_wp2_with fail
       exact bodyPost_ret (v := .slice (some ⟨g, 1, none⟩) (zs.length - 1) (zc - 1)) (by simp [results, Tryz.results135, go_sem]) rfl (unhide HD _ _ (Or.inr rfl))
     ·have hq' : (Q == 0) = false := by simpa using hq
      have hpi3 := pickC_in bs c4 zs.length
      have hpa3 := pickC_at bs c4 zs.length
      go_wp2_with fail
      refine (pick_any C bs c4 zs.length _ (unhide HT5).cur hbs (by omega) (by omega)).mono ?_
      rintro e w6 ⟨rfl, hc6, ho6⟩
      have HT6 := hide ((unhide HT5).draw ho6 hc6 (by omega))
      obtain ⟨⟨A, c5⟩, hpc⟩ : ∃ y, pickC bs c4 zs.length = y := ⟨_, rfl⟩
      rw [hpc] at hpi3 hpa3 HT6 ⊢
      dsimp only at hpi3 hpa3 HT6 ⊢
      obtain ⟨k, rfl⟩ := Int.eq_ofNat_of_zero_le hpi3.1
      have hk : k < zs.length := by omega
      have hk' : (k : Int) < (zs.length : Int) := by omega
      have hpi4 := pickC_in bs c5 5
      have hpa4 := pickC_at bs c5 5
      clear hc6 ho6 hpc
      go_wp2_with fail
      refine (pick_any C bs c5 5 _ (unhide HT6).cur hbs (by omega) (by omega)).mono ?_
      rintro e w7 ⟨rfl, hc7, ho7⟩
      have HT7 := hide ((unhide HT6).draw ho7 hc7 (by omega))
      obtain ⟨⟨B, c6⟩, hpc⟩ : ∃ y, pickC bs c5 5 = y := ⟨_, rfl⟩
      rw [hpc] at hpi4 hpa4 HT7 ⊢
      dsimp only at hpi4 hpa4 HT7 ⊢
      have hw1 : IntKind.i64.wrap (B - 1) = B - 1 := wrap_small (by omega) (by omega)
      have HF := hide ((unhide HT7).set hk (B - 1) (by omega))
      obtain ⟨b', off', hbe, hbl, q0⟩ := iRow_ints (unhide HT7).row k hk
      simp only [Option.some.injEq, Addr.mk.injEq, and_true] at hbe
      obtain ⟨rfl, rfl⟩ := hbe
      simp only [Nat.zero_add] at q0
      have gz := (unhide HT7).row.free
      have gl := hbl.2
      clear hc7 ho7 hpc hbl
      go_wp2_with fail
      have hlen : (zs.set k (B - 1)).length = zs.length := List.length_set
      refine bodyPost_ret (v := .slice (some ⟨g, 0, none⟩) zs.length zc) (by simp [results, Tryz.results135, go_sem]) rfl ?_
      have hR := (unhide HF).ret (unhide HB3) (J := i) (M := c.at_ + 30000) (by omega) (by rw [hlen, unhide HLZ]; exact Nat.le_refl _) (by omega)
      rw [hlen] at hR
      exact hR
    ·have hz2' : ¬ (0 : Int) < (zs.length : Int) := by omega
     go_wp2_with fail
     exact bodyPost_ret (v := .slice zq zs.length zc) (by simp [results, Tryz.results135, go_sem]) rfl ((unhide HT4).ret (unhide HB3) (by omega) (by rw [unhide HLZ]; exact Nat.le_refl _) (by omega))
   ·have hz' : (P == 0) = false := by simpa using hz
    go_wp2_with fail
    exact bodyPost_ret (v := .slice zq zs.length zc) (by simp [results, Tryz.results135, go_sem]) rfl ((unhide HT4).ret (unhide HB3) (by omega) (by rw [unhide HLZ]; exact Nat.le_refl _) (by omega))

end Go.Proofs.YtbdggfpfpjijoaaGreatDoor

