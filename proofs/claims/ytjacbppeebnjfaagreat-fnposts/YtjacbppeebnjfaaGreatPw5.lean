import Derived.Test.YtjacbppeebnjfaaGreatPw4
set_option linter.unusedSimpArgs false
namespace Go.Proofs.YtjacbppeebnjfaaGreat
open Go.RowKit

def FstAt (ps : List (Wh × Value)) (i f j : Nat) : Prop :=
 (f = i ∨ ((f = 2 * i + 1 ∨ f = 2 * i + 2) ∧ f < ps.length ∧ bef (ps.getD f noWv).1 (ps.getD i noWv).1)) ∧ (i < ps.length → f < ps.length) ∧ (1 ≤ j → 2 * i + 1 < ps.length → ¬ bef (ps.getD (2 * i + 1) noWv).1 (ps.getD f noWv).1) ∧ (2 ≤ j → 2 * i + 2 < ps.length → ¬ bef (ps.getD (2 * i + 2) noWv).1 (ps.getD f noWv).1)
theorem FstAt.zero (ps : List (Wh × Value)) (i : Nat) : FstAt ps i i 0 := ⟨Or.inl rfl, fun h => h, fun h => by omega, fun h => by omega⟩
theorem FstAt.stay1 {ps : List (Wh × Value)} {i f : Nat} (h : FstAt ps i f 0) (hn : 2 * i + 1 < ps.length → ¬ bef (ps.getD (2 * i + 1) noWv).1 (ps.getD f noWv).1) : FstAt ps i f 1 := ⟨h.1, h.2.1, fun _ => hn, fun h => by omega⟩
theorem FstAt.stay2 {ps : List (Wh × Value)} {i f : Nat} (h : FstAt ps i f 1) (hn : 2 * i + 2 < ps.length → ¬ bef (ps.getD (2 * i + 2) noWv).1 (ps.getD f noWv).1) : FstAt ps i f 2 := ⟨h.1, h.2.1, fun _ => h.2.2.1 (by omega), fun _ => hn⟩
theorem FstAt.take1 {ps : List (Wh × Value)} {i f C : Nat} (h : FstAt ps i f 0) (hC : C = 2 * i + 1) (hl : C < ps.length) (hb : bef (ps.getD C noWv).1 (ps.getD f noWv).1) : FstAt ps i C 1 := by
 have hf : f = i ∨ bef (ps.getD f noWv).1 (ps.getD i noWv).1 := by
  rcases h.1 with e | e
  ·exact Or.inl e
  ·exact Or.inr e.2.2
 refine ⟨Or.inr ⟨Or.inl hC, hl, ?_⟩, fun _ => hl, fun _ _ => ?_, fun h => by omega⟩
 ·rcases hf with rfl | hf
  ·exact hb
  ·unfold bef at hb hf ⊢
   omega
 ·rw [← hC]
  exact bef_irr _
theorem FstAt.take2 {ps : List (Wh × Value)} {i f C : Nat} (h : FstAt ps i f 1) (hC : C = 2 * i + 2) (hl : C < ps.length) (hb : bef (ps.getD C noWv).1 (ps.getD f noWv).1) : FstAt ps i C 2 := by
 have hf : f = i ∨ bef (ps.getD f noWv).1 (ps.getD i noWv).1 := by
  rcases h.1 with e | e
  ·exact Or.inl e
  ·exact Or.inr e.2.2
 refine ⟨Or.inr ⟨Or.inr hC, hl, ?_⟩, fun _ => hl, fun _ h1 => ?_, fun _ _ => ?_⟩
 ·rcases hf with rfl | hf
  ·exact hb
  ·unfold bef at hb hf ⊢
   omega
 ·exact bef_trans _ _ _ (bef_asymm _ _ hb) (h.2.2.1 (by omega) h1)
 ·rw [← hC]
  exact bef_irr _
theorem idx0 (a b : Int) (W : World) : (Instr.index 196 (.agg #[.int .i64 a, .int .i64 b]) (.int .i64 0)).run Tryz.prog W = .ok (.int .i64 a) W := by kernel_rfl
theorem idx1 (a b : Int) (W : World) : (Instr.index 196 (.agg #[.int .i64 a, .int .i64 b]) (.int .i64 1)).run Tryz.prog W = .ok (.int .i64 b) W := by kernel_rfl
structure SkAt (w0 : World) (H base : Nat) (v : Value) (l0 : List (Wh × Value)) (i : Nat) (ps : List (Wh × Value)) (w : World) : Prop where
 at_ : HpAt w H base v ps
 to_ : HpTo H w0 v w v
 same : SameQ l0 ps
 hp : HpD (fun x y : Wh × Value => bef x.1 y.1) noWv ps i
 lt : i < ps.length ∨ i = 0
set_option maxRecDepth 100000 in
set_option maxHeartbeats 8000000 in
theorem sink_any (H base : Nat) (v : Value) (qs : List (Wh × Value)) (w : World) (h : HpAt w H base v qs) (hd : HpD (fun x y : Wh × Value => bef x.1 y.1) noWv qs 0) :
  Calls Tryz.prog 91 #[.pointer (some ⟨H, 0, none⟩)] w fun e w' => e = .returned (.tuple #[]) ∧ ∃ ps, HpAt w' H base v ps ∧ HpTo H w v w' v ∧ SameQ qs ps ∧ HeapQ ps := by
 have hfew := h.few
 have HS0 : Hid (SkAt w H base v qs 0 qs w) := ⟨h, HpTo.refl _ _ _, SameL.refl _ _, hd, Or.inr rfl⟩
 clear h hd
 go_enter Tryz.func91, Tryz.ntmps91
 go_wp2_with fail
 go_loopw [2] (fun z wr => ∃ (i : Nat) (ps : List (Wh × Value)), z = .int .i64 i ∧ i ≤ qs.length ∧ Hid (SkAt w H base v qs i ps wr)) (fun z _ => qs.length - (intOf z).toNat)
 case atStart => exact ⟨0, qs, rfl, Nat.zero_le _, HS0⟩
 case round =>
  clear HS0
  obtain ⟨i, ps, rfl, hi, HR⟩ := hrel
  rename World => wr
  have hln : ps.length = qs.length := (unhide HR).same.1
  have HLN := hide hln
  have hpl : ps.length ≤ 1000 := by omega
  have hil : i ≤ ps.length := by omega
  clear hln
  have hm2 : IntKind.i64.wrap (2 * (i : Int)) = 2 * (i : Int) := wrap_small (by omega) (by omega)
  have hm3 : IntKind.i64.wrap (2 * (i : Int) + 1) = 2 * (i : Int) + 1 := wrap_small (by omega) (by omega)
  have hm4 : IntKind.i64.wrap (2 * (i : Int) + 2) = 2 * (i : Int) + 2 := wrap_small (by omega) (by omega)
  go_wp2_with fail
  go_loopw [3, 14] (fun y z wq => ∃ (j f : Nat), z = .int .i64 j ∧ y = .int .i64 f ∧ j ≤ 2 ∧ Hid (FstAt ps i f j) ∧ Hid (Below wr.heap.size wr wq)) (fun _ z _ => 2 - (intOf z).toNat)
  case atStart => exact ⟨0, i, rfl, rfl, by omega, FstAt.zero _ _, Below.refl _ _⟩
  case round =>
   obtain ⟨j, f, rfl, rfl, hj, HF, HQ⟩ := hrel
   rename World => wq
   have HPq := hide ((unhide HR).at_.below (unhide HQ))
   have hx0 := idx0
   have hx1 := idx1
   obtain rfl | rfl | rfl : j = 0 ∨ j = 1 ∨ j = 2 := by omega
   ·clear hm2 hm3 hm4
    obtain ⟨C, hC⟩ : ∃ C, 2 * i + 1 = C := ⟨_, rfl⟩
    have hcE : 2 * (i : Int) + 1 = (C : Int) := by omega
    have hiC : i < C := by omega
    by_cases hcl : C < ps.length
    ·have hcl' : (C : Int) < (ps.length : Int) := by omega
     obtain ⟨g, cap, hve, hgl, hgb⟩ := (unhide HPq).slice (by omega)
     subst hve
     obtain ⟨x1, a1, c1, q1, hI1⟩ := (unhide HPq).item (i := C) hcl
     obtain ⟨x2, a2, c2, q2, hI2⟩ := (unhide HPq).item (i := f) (by have := (unhide HF).2.1; omega)
     have hf' : (f : Int) < (ps.length : Int) := by have := (unhide HF).2.1; omega
     have b0 := (unhide HPq).box.2.1 0 _ rfl
     have bl := (unhide HPq).box.1
     have HI1 := hide hI1
     have HI2 := hide hI2
     have i0 := hI1.c0
     have i1' := hI1.c1
     have i2 := hI1.c2
     have k0 := hI2.c0
     have k1 := hI2.c1
     have k2 := hI2.c2
     have HQ1 := hide q1
     have HQ2 := hide q2
     obtain ⟨bb, hbb⟩ : ∃ bb, decide (bef x1 x2) = bb := ⟨_, rfl⟩
     have HBB := hide hbb
     clear hI1 hI2 q1 q2 hbb
     cases bb with
     | false =>
      go_upto_region 5 with fail
      refine region_named 23 (by decide) (fun hmeth => ?_)
      simp only [MethBef, nmAt, List.getElem?_cons_succ, List.getElem?_cons_zero] at hmeth
      refine wp_region_grown (by kernel_rfl) (by kernel_rfl) (fun hgn hgc => ?_)
      repeat (go_big_quiet_step (first | (go_at_call 155; rename_i g; exact g.call (before_lit x1 x2 (unhide HBB) a1 a2 c1 c2 _ ((unhide HI1).ms.below g.below) ((unhide HI2).ms.below g.below) (unhide HI1).fit (unhide HI2).fit))))
      refine wpQuiet_nil ?_
      intro w3 hwq
      have hb3 : Below wq.heap.size wq w3 := by obtain ⟨g, rfl⟩ := hwq; exact g.below
      have HB3 := hide (below_then (unhide HQ) hb3)
      have hnb : ¬ bef (ps.getD C noWv).1 (ps.getD f noWv).1 := by rw [unhide HQ1, unhide HQ2]; exact of_decide_eq_false (unhide HBB)
      have HF' : Hid (FstAt ps i f 1) := (unhide HF).stay1 (fun h => by rw [hC]; exact hnb)
      clear hwq hgn hgc hmeth hb3 hnb
      go_wp2_with fail
      exact ⟨⟨1, f, rfl, rfl, by omega, HF', HB3⟩, by simp [intOf]⟩
     | true =>
      go_upto_region 5 with fail
      refine region_named 23 (by decide) (fun hmeth => ?_)
      simp only [MethBef, nmAt, List.getElem?_cons_succ, List.getElem?_cons_zero] at hmeth
      refine wp_region_grown (by kernel_rfl) (by kernel_rfl) (fun hgn hgc => ?_)
      repeat (go_big_quiet_step (first | (go_at_call 155; rename_i g; exact g.call (before_lit x1 x2 (unhide HBB) a1 a2 c1 c2 _ ((unhide HI1).ms.below g.below) ((unhide HI2).ms.below g.below) (unhide HI1).fit (unhide HI2).fit))))
      refine wpQuiet_nil ?_
      intro w3 hwq
      have hb3 : Below wq.heap.size wq w3 := by obtain ⟨g, rfl⟩ := hwq; exact g.below
      have HB3 := hide (below_then (unhide HQ) hb3)
      have hnb : bef (ps.getD C noWv).1 (ps.getD f noWv).1 := by rw [unhide HQ1, unhide HQ2]; exact of_decide_eq_true (unhide HBB)
      have HF' : Hid (FstAt ps i C 1) := (unhide HF).take1 hC.symm hcl hnb
      clear hwq hgn hgc hmeth hb3 hnb
      go_wp2_with fail
      exact ⟨⟨1, C, rfl, rfl, by omega, HF', HB3⟩, by simp [intOf]⟩
    ·have hcl' : ¬ (C : Int) < (ps.length : Int) := by omega
     have b0 := (unhide HPq).box.2.1 0 _ rfl
     have bl := (unhide HPq).box.1
     obtain ⟨ua, uc, hve, _, _⟩ := (unhide HPq).row.shape whF_len
     subst hve
     go_upto_region 5 with fail
     refine region_named 23 (by decide) (fun hmeth => ?_)
     simp only [MethBef, nmAt, List.getElem?_cons_succ, List.getElem?_cons_zero] at hmeth
     refine wp_region_grown (by kernel_rfl) (by kernel_rfl) (fun hgn hgc => ?_)
     repeat (go_big_quiet_step (fail))
     refine wpQuiet_nil ?_
     intro w3 hwq
     have hb3 : Below wq.heap.size wq w3 := by obtain ⟨g, rfl⟩ := hwq; exact g.below
     have HB3 := hide (below_then (unhide HQ) hb3)
     have HF' : Hid (FstAt ps i f 1) := (unhide HF).stay1 (fun h => by omega)
     clear hwq hgn hgc hmeth hb3
     go_wp2_with fail
     exact ⟨⟨1, f, rfl, rfl, by omega, HF', HB3⟩, by simp [intOf]⟩
   ·clear hm2 hm3 hm4
    obtain ⟨C, hC⟩ : ∃ C, 2 * i + 2 = C := ⟨_, rfl⟩
    have hcE : 2 * (i : Int) + 2 = (C : Int) := by omega
    have hiC : i < C := by omega
    by_cases hcl : C < ps.length
    ·have hcl' : (C : Int) < (ps.length : Int) := by omega
     obtain ⟨g, cap, hve, hgl, hgb⟩ := (unhide HPq).slice (by omega)
     subst hve
     obtain ⟨x1, a1, c1, q1, hI1⟩ := (unhide HPq).item (i := C) hcl
     obtain ⟨x2, a2, c2, q2, hI2⟩ := (unhide HPq).item (i := f) (by have := (unhide HF).2.1; omega)
     have hf' : (f : Int) < (ps.length : Int) := by have := (unhide HF).2.1; omega
     have b0 := (unhide HPq).box.2.1 0 _ rfl
     have bl := (unhide HPq).box.1
     have HI1 := hide hI1
     have HI2 := hide hI2
     have i0 := hI1.c0
     have i1' := hI1.c1
     have i2 := hI1.c2
     have k0 := hI2.c0
     have k1 := hI2.c1
     have k2 := hI2.c2
     have HQ1 := hide q1
     have HQ2 := hide q2
     obtain ⟨bb, hbb⟩ : ∃ bb, decide (bef x1 x2) = bb := ⟨_, rfl⟩
     have HBB := hide hbb
     clear hI1 hI2 q1 q2 hbb
     cases bb with
     | false =>
      go_upto_region 5 with fail
      refine region_named 23 (by decide) (fun hmeth => ?_)
      simp only [MethBef, nmAt, List.getElem?_cons_succ, List.getElem?_cons_zero] at hmeth
      refine wp_region_grown (by kernel_rfl) (by kernel_rfl) (fun hgn hgc => ?_)
      repeat (go_big_quiet_step (first | (go_at_call 155; rename_i g; exact g.call (before_lit x1 x2 (unhide HBB) a1 a2 c1 c2 _ ((unhide HI1).ms.below g.below) ((unhide HI2).ms.below g.below) (unhide HI1).fit (unhide HI2).fit))))
      refine wpQuiet_nil ?_
      intro w3 hwq
      have hb3 : Below wq.heap.size wq w3 := by obtain ⟨g, rfl⟩ := hwq; exact g.below
      have HB3 := hide (below_then (unhide HQ) hb3)
      have hnb : ¬ bef (ps.getD C noWv).1 (ps.getD f noWv).1 := by rw [unhide HQ1, unhide HQ2]; exact of_decide_eq_false (unhide HBB)
      have HF' : Hid (FstAt ps i f 2) := (unhide HF).stay2 (fun h => by rw [hC]; exact hnb)
      clear hwq hgn hgc hmeth hb3 hnb
      go_wp2_with fail
      exact ⟨⟨2, f, rfl, rfl, by omega, HF', HB3⟩, by simp [intOf]⟩
     | true =>
      go_upto_region 5 with fail
      refine region_named 23 (by decide) (fun hmeth => ?_)
      simp only [MethBef, nmAt, List.getElem?_cons_succ, List.getElem?_cons_zero] at hmeth
      refine wp_region_grown (by kernel_rfl) (by kernel_rfl) (fun hgn hgc => ?_)
      repeat (go_big_quiet_step (first | (go_at_call 155; rename_i g; exact g.call (before_lit x1 x2 (unhide HBB) a1 a2 c1 c2 _ ((unhide HI1).ms.below g.below) ((unhide HI2).ms.below g.below) (unhide HI1).fit (unhide HI2).fit))))
      refine wpQuiet_nil ?_
      intro w3 hwq
      have hb3 : Below wq.heap.size wq w3 := by obtain ⟨g, rfl⟩ := hwq; exact g.below
      have HB3 := hide (below_then (unhide HQ) hb3)
      have hnb : bef (ps.getD C noWv).1 (ps.getD f noWv).1 := by rw [unhide HQ1, unhide HQ2]; exact of_decide_eq_true (unhide HBB)
      have HF' : Hid (FstAt ps i C 2) := (unhide HF).take2 hC.symm hcl hnb
      clear hwq hgn hgc hmeth hb3 hnb
      go_wp2_with fail
      exact ⟨⟨2, C, rfl, rfl, by omega, HF', HB3⟩, by simp [intOf]⟩
    ·have hcl' : ¬ (C : Int) < (ps.length : Int) := by omega
     have b0 := (unhide HPq).box.2.1 0 _ rfl
     have bl := (unhide HPq).box.1
     obtain ⟨ua, uc, hve, _, _⟩ := (unhide HPq).row.shape whF_len
     subst hve
     go_upto_region 5 with fail
     refine region_named 23 (by decide) (fun hmeth => ?_)
     simp only [MethBef, nmAt, List.getElem?_cons_succ, List.getElem?_cons_zero] at hmeth
     refine wp_region_grown (by kernel_rfl) (by kernel_rfl) (fun hgn hgc => ?_)
     repeat (go_big_quiet_step (fail))
     refine wpQuiet_nil ?_
     intro w3 hwq
     have hb3 : Below wq.heap.size wq w3 := by obtain ⟨g, rfl⟩ := hwq; exact g.below
     have HB3 := hide (below_then (unhide HQ) hb3)
     have HF' : Hid (FstAt ps i f 2) := (unhide HF).stay2 (fun h => by omega)
     clear hwq hgn hgc hmeth hb3
     go_wp2_with fail
     exact ⟨⟨2, f, rfl, rfl, by omega, HF', HB3⟩, by simp [intOf]⟩
   ·clear HPq
    have hnil : Hid (SkAt w H base v qs i ps wq) := ⟨(unhide HR).at_.below (unhide HQ), (unhide HR).to_.trans (HpTo.of_below _ (unhide HQ)), (unhide HR).same, (unhide HR).hp, (unhide HR).lt⟩
    by_cases hfi : f = i
    ·subst hfi
     have hfb : ((f : Int) == (f : Int)) = true := by simp
     go_wp2_with fail
     refine bodyPost_ret (v := .tuple #[]) (by simp [results, Tryz.results91, go_sem]) rfl ?_
     refine ⟨rfl, ps, (unhide hnil).at_, (unhide hnil).to_, (unhide hnil).same, down_end (unhide hnil).hp ?_⟩
     rintro j (rfl | rfl) hj
     ·exact (unhide HF).2.2.1 (by omega) hj
     ·exact (unhide HF).2.2.2 (by omega) hj
    ·have hfb : ((f : Int) == (i : Int)) = false := by rw [beq_eq_false_iff_ne]; omega
     obtain ⟨hch, hfl, hbf⟩ : (f = 2 * i + 1 ∨ f = 2 * i + 2) ∧ f < ps.length ∧ bef (ps.getD f noWv).1 (ps.getD i noWv).1 := by
      rcases (unhide HF).1 with e | e
      ·exact absurd e hfi
      ·exact e
     have HBF := hide hbf
     clear hbf
     go_wp2_with fail
     refine (swap_any H base _ ps i f wq (unhide hnil).at_ (by omega) hfl).mono ?_
     rintro e w4 ⟨rfl, hP4, hT4⟩
     have HPS : Hid (SkAt w H base v qs f (swapL noWv ps i f) w4) := by
      refine ⟨hP4, (unhide hnil).to_.trans hT4, (unhide hnil).same.trans (same_swap _ (by omega) hfl), ?_, Or.inl (by rw [swapL_len]; exact hfl)⟩
      refine down_step (d := noWv) (fun x y => bef_asymm x.1 y.1) (unhide hnil).hp hch hfl (unhide HBF) ?_
      rintro j (rfl | rfl) hj
      ·exact (unhide HF).2.2.1 (by omega) hj
      ·exact (unhide HF).2.2.2 (by omega) hj
     clear hP4 hT4
     go_wp2_with fail
     exact ⟨⟨f, _, rfl, by have := unhide HLN; omega, HPS⟩, by have := unhide HLN; simp [intOf]; omega⟩

end Go.Proofs.YtjacbppeebnjfaaGreat

