import Derived.Test.YtjacbppeebnjfaaGreatPw3
import Derived.Deep.RegionLaw
import Derived.Deep.AppendLies
set_option linter.unusedSimpArgs false
namespace Go.Proofs.YtjacbppeebnjfaaGreat
open Go.RowKit

abbrev HeapQ (l : List (Wh × Value)) : Prop := HeapL (fun x y : Wh × Value => bef x.1 y.1) noWv l
abbrev SameQ (l k : List (Wh × Value)) : Prop := SameL (fun x y : Wh × Value => OtherAx x.1 y.1) noWv l k
theorem info_wheel : (Tryz.prog.info? 133).map (fun i => (i.zero, i.size, i.bytes)) = some (some (.agg #[.int .i64 0, .int .i64 0, .slice none 0 0]), 3, 40) := by kernel_rfl
theorem wh_one (x : Wh) (a : Option Addr) (m c : Nat) : ∀ u ∈ whF (x, .slice a m c), u.oneCell' = true := by
 intro u hu
 simp [whF] at hu
 rcases hu with rfl | rfl | rfl <;> rfl
theorem wh_news {w : World} {N : Nat} {x : Wh} {a : Option Addr} {m c : Nat} (h : Boxed w N [.int .i64 x.axle, .int .i64 x.back, .slice a m c]) : ∀ j u, (whF (x, .slice a m c))[j]? = some u → w.cell? ((⟨N, 0, none⟩ : Addr).add j) = some u := fun j u hu => by
 have hadd : (⟨N, 0, none⟩ : Addr).add j = ⟨N, j, none⟩ := by unfold Addr.add; split <;> simp_all
 rw [hadd]
 exact h.2.1 j u hu
theorem before_lit {b : Bool} (v u : Wh) (hb : decide (bef v u) = b) (x y : Option Addr) (k l : Nat) (w : World) (hm : MksAt w x v.ms) (hn : MksAt w y u.ms) (hf : WhFit v) (hg : WhFit u) : Calls Tryz.prog 155 #[.agg #[.int .i64 v.axle, .int .i64 v.back, .slice x v.ms.length k], .agg #[.int .i64 u.axle, .int .i64 u.back, .slice y u.ms.length l]] w fun e w' => e = .returned (.bool b) ∧ Below w.heap.size w w' :=
 hb ▸ before_any v u x y k l w hm hn hf hg
structure ItAt (w : World) (g i : Nat) (x : Wh) (a : Option Addr) (c : Nat) : Prop where
 c0 : w.cell? ⟨g, i * 3, none⟩ = some (.int .i64 x.axle)
 c1 : w.cell? ⟨g, i * 3 + 1, none⟩ = some (.int .i64 x.back)
 c2 : w.cell? ⟨g, i * 3 + 2, none⟩ = some (.slice a x.ms.length c)
 ms : MksAt w a x.ms
 fit : WhFit x
theorem HpAt.item {w : World} {H base g m cap : Nat} {qs : List (Wh × Value)} (h : HpAt w H base (.slice (some ⟨g, 0, none⟩) m cap) qs) {i : Nat} (hi : i < qs.length) : ∃ x a c, qs.getD i noWv = (x, .slice a x.ms.length c) ∧ ItAt w g i x a c := by
 obtain ⟨a', cap', e, _, hc⟩ := h.row.shape whF_len
 simp only [Value.slice.injEq] at e
 obtain ⟨g', e2, _, hci⟩ := hc i hi
 rw [← e.1] at e2
 simp only [Option.some.injEq, Addr.mk.injEq, and_true] at e2
 subst e2
 obtain ⟨a, c, e3, _, hm, _⟩ := h.ms _ (List.getElem_mem hi)
 have hf := h.fit _ (List.getElem_mem hi)
 have i2 := hci 2 (by omega)
 refine ⟨(qs[i]).1, a, c, ?_, hci 0 (by omega), hci 1 (by omega), ?_, hm, hf⟩
 ·rw [List.getD_eq_getElem?_getD, List.getElem?_eq_getElem hi]
  show qs[i] = _
  rw [← e3]
 ·rw [i2]
  show some (qs[i]).2 = _
  rw [e3]
theorem HpAt.slice {w : World} {H base : Nat} {v : Value} {qs : List (Wh × Value)} (h : HpAt w H base v qs) (hne : 0 < qs.length) : ∃ g cap, v = .slice (some ⟨g, 0, none⟩) qs.length cap ∧ g < w.heap.size ∧ base ≤ g := by
 obtain ⟨a, cap, e, _, hc⟩ := h.row.shape whF_len
 obtain ⟨g, rfl, hl, _⟩ := hc 0 hne
 exact ⟨g, cap, e, hl.2, hl.1⟩
structure PsAt (w0 : World) (v0 : Value) (H base : Nat) (l0 : List (Wh × Value)) (i : Nat) (w : World) : Prop where
 st : ∃ v ps, HpAt w H base v ps ∧ HpTo H w0 v0 w v ∧ SameQ l0 ps ∧ HpU (fun x y : Wh × Value => bef x.1 y.1) noWv ps i
theorem MsIn.below {w w' : World} {H : Nat} {q : Wh × Value} (h : MsIn w H q) (hb : Below w.heap.size w w') : MsIn w' H q := h.blocks hb.size (fun k _ hk => hb.block k hk)
theorem le_of_or {p : Prop} {g k : Nat} (h : p ∨ g = k) : p ∨ k ≤ g := by
 rcases h with h | h
 ·exact Or.inl h
 ·exact Or.inr (by omega)
theorem HpAt.push {w w5 : World} {H base g cap : Nat} {v : Value} {qs : List (Wh × Value)} {q : Wh × Value} (h : HpAt w H base v qs) (hm : MsIn w H q) (hf : WhFit q.1) (hl : qs.length ≤ 900) (hg : w.grownBy w5 v.ownBlock) (hr : WhRow w5 base (.slice (some ⟨g, 0, none⟩) (qs.length + 1) cap) (qs ++ [q])) (hat : v.ownBlock = some g ∨ w.heap.size ≤ g) :
  HpAt (w5.setCell ⟨H, 0, none⟩ (.slice (some ⟨g, 0, none⟩) (qs.length + 1) cap)) H base (.slice (some ⟨g, 0, none⟩) (qs.length + 1) cap) (qs ++ [q]) ∧ HpTo H w v (w5.setCell ⟨H, 0, none⟩ (.slice (some ⟨g, 0, none⟩) (qs.length + 1) cap)) (.slice (some ⟨g, 0, none⟩) (qs.length + 1) cap) := by
 have hlo := h.lo
 have htop := h.top
 have hne : v.ownBlock ≠ some H := fun e => by have := (h.row.lt H e).1; omega
 have hbx := h.box.grownE hg hne
 have hsz : (w5.setCell ⟨H, 0, none⟩ (.slice (some ⟨g, 0, none⟩) (qs.length + 1) cap)).heap.size = w5.heap.size := by simp [World.setCell]
 have hblk : ∀ k, k < w.heap.size → k ≠ H → v.ownBlock ≠ some k → (w5.setCell ⟨H, 0, none⟩ (.slice (some ⟨g, 0, none⟩) (qs.length + 1) cap)).heap[k]? = w.heap[k]? := fun k hk h1 h2 => (Below.heap_setCell w5 ⟨H, 0, none⟩ _ k h1).trans (hg.block k hk (fun e => h2 e.symm))
 have hms : ∀ p, MsIn w H p → MsIn (w5.setCell ⟨H, 0, none⟩ (.slice (some ⟨g, 0, none⟩) (qs.length + 1) cap)) H p := fun p hp => hp.blocks (by rw [hsz]; exact hg.size) (fun k hk hl => hblk k hl (by omega) (fun e => by have := (h.row.lt k e).1; omega))
 refine ⟨⟨by simpa using hbx.setAt (i := 0) (by simp) (.slice (some ⟨g, 0, none⟩) (qs.length + 1) cap), hr.setCell (p := ⟨H, 0, none⟩) hlo _, hlo, fun p hp => ?_, fun p hp => ?_, by rw [List.length_append, List.length_singleton]; omega, by rw [hsz]; exact Nat.le_trans htop hg.size⟩, hg.os, hg.tape, hg.output, by rw [hsz]; exact hg.size, hblk, fun k hk => ?_⟩
 ·rcases List.mem_append.1 hp with hp | hp
  ·exact hms p (h.ms p hp)
  ·simp at hp
   subst hp
   exact hms _ hm
 ·rcases List.mem_append.1 hp with hp | hp
  ·exact h.fit p hp
  ·simp at hp
   subst hp
   exact hf
 ·simp [Value.ownBlock] at hk
  subst hk
  exact hat
set_option maxRecDepth 100000 in
set_option maxHeartbeats 8000000 in
theorem push_any (H base : Nat) (v : Value) (qs : List (Wh × Value)) (x : Wh) (a : Option Addr) (c : Nat) (w : World) (h : HpAt w H base v qs) (hm : MsIn w H (x, .slice a x.ms.length c)) (hf : WhFit x) (hl : qs.length ≤ 900) (hh : HeapQ qs) :
  Calls Tryz.prog 54 #[.pointer (some ⟨H, 0, none⟩), .agg #[.int .i64 x.axle, .int .i64 x.back, .slice a x.ms.length c]] w fun e w' => e = .returned (.tuple #[]) ∧ ∃ v' ps, HpAt w' H base v' ps ∧ HpTo H w v w' v' ∧ SameQ (qs ++ [(x, .slice a x.ms.length c)]) ps ∧ HeapQ ps := by
 obtain ⟨i1, hj1, hy0, hy1, hy2⟩ := info_parts info_wheel
 obtain ⟨ua, uc, rfl, _, _⟩ := h.row.shape whF_len
 have hbx := h.box
 have b0 := hbx.2.1 0 _ rfl
 have bl := hbx.1
 have bz := hbx.2.2 0
 have HH := hide h
 have HM := hide hm
 have htop := h.top
 have hne : (Value.slice ua qs.length uc).ownBlock ≠ some H := fun e => by have := (h.row.lt H e).1; have := h.lo; omega
 have HNE := hide hne
 have HHQ := hide hh
 have HROW := hide h.row
 have HW : Hid (WhFit x) := hf
 clear h hm hbx hh hne hf
 go_enter Tryz.func54, Tryz.ntmps54
 go_upto_region 1 with fail
 have e1 : ¬ H = w.heap.size := by omega
 have e2 : ¬ w.heap.size = H := by omega
 go_cut [] (fun wx => Hid (PsAt w (.slice ua qs.length uc) H base (qs ++ [(x, .slice a x.ms.length c)]) qs.length wx))
 case first =>
  go_region_law (first
   | (refine step_append_lies _ rfl (.tmp 10) (.tmp 12) 125 rfl base 133 i1 (.agg #[.int .i64 0, .int .i64 0, .slice none 0 0]) 3 40 Tryz.underlying125 hj1 hy0 hy1 hy2 rfl (by decide) (.slice ua qs.length uc) qs.length (qs.flatMap whF) (by simp [Act.eval]) ((unhide HROW).below bw0) _ 1 1 (whF (x, .slice a x.ms.length c)) (by simp [Act.eval]) rfl (wh_news (boxed_alloc _ _ _)) (wh_one _ _ _ _) (by omega) (by unfold maxLen; omega) (by omega) (by first | omega | (simp; omega)) _ rfl ?_; intro g cap w5 hown hgrow hat hlt5; have hB5 := Boxed.grownE ((unhide HH).box.below bw0) hgrow (unhide HNE); have d0 := hB5.2.1 0 _ rfl; have dz := hB5.2.2 0; have dl := hB5.1))
  all_goals have hK := HpAt.push ((unhide HH).below bw0) ((unhide HM).below bw0) (unhide HW) hl hgrow (Row.snoc (f := whF) hown) (le_of_or hat)
  all_goals have hT := (HpTo.of_below (H := H) (Value.slice ua qs.length uc) (show Below w.heap.size w _ from bw0)).trans hK.2
  all_goals have HPS : Hid (PsAt w (.slice ua qs.length uc) H base (qs ++ [(x, .slice a x.ms.length c)]) qs.length _) := ⟨_, _, hK.1, hT, SameL.refl _ _, up_start (unhide HHQ) _⟩
  all_goals clear hK hT hown hgrow hat hB5 d0 dz dl
  all_goals go_wp2_with fail
  all_goals go_meet
  all_goals exact HPS
 case rest =>
  have HC := hcut
  clear hcut
  obtain ⟨v, ps, hP, hT, hS, hU⟩ := (unhide HC).st
  have hlen : ps.length = qs.length + 1 := by have := hS.1; simpa using this
  obtain ⟨g, cap, rfl, hgl, hgb⟩ := hP.slice (by omega)
  have b0 := hP.box.2.1 0 _ rfl
  have bl := hP.box.1
  have hsub : IntKind.i64.wrap ((ps.length : Int) - 1) = (qs.length : Int) := (wrap_small (by omega) (by omega)).trans (by omega)
  clear hP hT hS hU hlen
  go_wp2_with fail
  go_loopw [4] (fun z wr => ∃ i : Nat, z = .int .i64 i ∧ i ≤ qs.length ∧ Hid (PsAt w (.slice ua qs.length uc) H base (qs ++ [(x, .slice a x.ms.length c)]) i wr)) (fun z _ => (intOf z).toNat)
  case atStart => exact ⟨qs.length, rfl, Nat.le_refl _, HC⟩
  case round =>
   clear b0 bl hsub hgl HC
   obtain ⟨i, rfl, hi, HR⟩ := hrel
   obtain ⟨v, ps, hP, hT, hS, hU⟩ := (unhide HR).st
   have hlen : ps.length = qs.length + 1 := by have := hS.1; simpa using this
   obtain ⟨g, cap, rfl, hgl, hgb⟩ := hP.slice (by omega)
   have HP := hide hP
   have HT := hide hT
   have HS := hide hS
   have HU := hide hU
   have HLN := hide hlen
   by_cases h0 : i = 0
   ·subst h0
    clear hP hT hS hU hlen
    go_wp2_with fail
    go_end0
    exact ⟨rfl, _, _, unhide HP, unhide HT, unhide HS, up_end0 (unhide HU)⟩
   ·have h0' : (0 : Int) < (i : Int) := by omega
    have hw1 : IntKind.i64.wrap ((i : Int) - 1) = ((i - 1 : Nat) : Int) := (wrap_small (by omega) (by omega)).trans (by omega)
    have hq2 : Int.tdiv ((i - 1 : Nat) : Int) 2 = (((i - 1) / 2 : Nat) : Int) := by rw [Int.tdiv_eq_ediv_of_nonneg (by omega)]; omega
    have hw2 : IntKind.i64.wrap (((i - 1) / 2 : Nat) : Int) = (((i - 1) / 2 : Nat) : Int) := wrap_small (by omega) (by omega)
    obtain ⟨x1, a1, c1, q1, hI1⟩ := hP.item (i := i) (by omega)
    obtain ⟨x2, a2, c2, q2, hI2⟩ := hP.item (i := (i - 1) / 2) (by omega)
    have hi' : (i : Int) < (ps.length : Int) := by omega
    have hk' : (((i - 1) / 2 : Nat) : Int) < (ps.length : Int) := by omega
    have b0 := hP.box.2.1 0 _ rfl
    have bl := hP.box.1
    have HI1 := hide hI1
    have HI2 := hide hI2
    have i0 := hI1.c0
    have i1' := hI1.c1
    have i2 := hI1.c2
    have k0 := hI2.c0
    have k1 := hI2.c1
    have k2 := hI2.c2
    obtain ⟨A, hA⟩ : ∃ A, (i - 1) / 2 = A := ⟨_, rfl⟩
    have hAi : A < i := by omega
    rw [hA] at hq2 hw2 q2 hk' k0 k1 k2
    have HA := hide hA
    have HQ1 := hide q1
    have HQ2 := hide q2
    obtain ⟨bb, hbb⟩ : ∃ bb, decide (bef x1 x2) = bb := ⟨_, rfl⟩
    have HBB := hide hbb
    clear hP hT hS hU hlen hI1 hI2 hA q1 q2 hbb
    cases bb with
    | false =>
     go_upto_region 5 with fail
     refine region_named 15 (by decide) (fun hmeth => ?_)
     simp only [MethBef, nmAt, List.getElem?_cons_succ, List.getElem?_cons_zero] at hmeth
     refine wp_region_grown (by kernel_rfl) (by kernel_rfl) (fun hgn hgc => ?_)
     repeat (go_big_quiet_step (first | (go_at_call 155; rename_i g; exact g.call (before_lit x1 x2 (unhide HBB) a1 a2 c1 c2 _ ((unhide HI1).ms.below g.below) ((unhide HI2).ms.below g.below) (unhide HI1).fit (unhide HI2).fit))))
     refine wpQuiet_nil ?_
     intro w3 hwq
     have hb3 : Below wr.heap.size wr w3 := by obtain ⟨g, rfl⟩ := hwq; exact g.below
     clear hwq hgn hgc hmeth
     go_wp2_with fail
     refine bodyPost_ret (v := .tuple #[]) (by simp [results, Tryz.results54, go_sem]) rfl ?_
     refine ⟨rfl, _, _, (unhide HP).below hb3, (unhide HT).trans (HpTo.of_below _ hb3), unhide HS, up_end (unhide HU) ?_⟩
     rw [unhide HA, unhide HQ1, unhide HQ2]
     exact of_decide_eq_false (unhide HBB)
    | true =>
     go_upto_region 5 with fail
     refine region_named 15 (by decide) (fun hmeth => ?_)
     simp only [MethBef, nmAt, List.getElem?_cons_succ, List.getElem?_cons_zero] at hmeth
     refine wp_region_grown (by kernel_rfl) (by kernel_rfl) (fun hgn hgc => ?_)
     repeat (go_big_quiet_step (first | (go_at_call 155; rename_i g; exact g.call (before_lit x1 x2 (unhide HBB) a1 a2 c1 c2 _ ((unhide HI1).ms.below g.below) ((unhide HI2).ms.below g.below) (unhide HI1).fit (unhide HI2).fit))))
     refine wpQuiet_nil ?_
     intro w3 hwq
     have hb3 : Below wr.heap.size wr w3 := by obtain ⟨g, rfl⟩ := hwq; exact g.below
     have HB3 := hide hb3
     clear hwq hgn hgc hmeth hb3
     go_wp2_with fail
     refine (swap_any H base _ ps i A w3 ((unhide HP).below (unhide HB3)) (by have := unhide HLN; omega) (by have := unhide HLN; omega)).mono ?_
     rintro e w4 ⟨rfl, hP4, hT4⟩
     have HPS : Hid (PsAt w (.slice ua qs.length uc) H base (qs ++ [(x, .slice a x.ms.length c)]) A w4) := by
      refine ⟨_, _, hP4, ((unhide HT).trans (HpTo.of_below _ (unhide HB3))).trans hT4, (unhide HS).trans (same_swap _ (by have := unhide HLN; omega) (by have := unhide HLN; omega)), ?_⟩
      have := up_step (d := noWv) (fun x y => bef_asymm x.1 y.1) (fun x y z => bef_trans x.1 y.1 z.1) (unhide HU) (by omega) (by have := unhide HLN; omega) (by rw [unhide HA, unhide HQ1, unhide HQ2]; exact of_decide_eq_true (unhide HBB))
      rw [unhide HA] at this
      exact this
     clear hP4 hT4
     go_wp2_with fail
     exact ⟨⟨A, rfl, by omega, HPS⟩, by simp [intOf]; omega⟩

end Go.Proofs.YtjacbppeebnjfaaGreat

