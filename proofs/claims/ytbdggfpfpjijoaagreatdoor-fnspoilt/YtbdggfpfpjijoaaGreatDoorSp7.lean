import Derived.Test.YtbdggfpfpjijoaaGreatDoorMSp4
import Derived.Test.YtbdggfpfpjijoaaGreatDoorMRo
set_option linter.unusedSimpArgs false
namespace Go.Proofs.YtbdggfpfpjijoaaGreatDoor
open Go.RowKit

theorem bnNews {L : Nat} {w : World} {b off : Nat} {xs : List St} (h : StsAt L w (some ⟨b, off, none⟩) xs) : ∀ j u, (xs.flatMap stF)[j]? = some u → w.cell? ((⟨b, off, none⟩ : Addr).add j) = some u := by
 intro j u hj
 have hl := flat_len stF_len xs
 have hjl : j < (xs.flatMap stF).length := (List.getElem?_eq_some_iff.1 hj).1
 have hi : j / 2 < xs.length := by omega
 have e : j = j / 2 * 2 + j % 2 := by omega
 have hadd : (⟨b, off, none⟩ : Addr).add j = ⟨b, off + j, none⟩ := by simp [Addr.add]
 obtain ⟨b', off', ha, _, c0, c1⟩ := h (j / 2) hi
 simp only [Option.some.injEq, Addr.mk.injEq, and_true] at ha
 obtain ⟨rfl, rfl⟩ := ha
 rw [e, flat_get stF_len xs (j / 2) (j % 2) hi (by omega)] at hj
 rw [hadd]
 rcases Nat.mod_two_eq_zero_or_one j with h0 | h1
 ·rw [h0] at hj
  simp [stF] at hj
  subst hj
  rw [← c0]
  congr 2
  omega
 ·rw [h1] at hj
  simp [stF] at hj
  subst hj
  rw [← c1]
  congr 2
  omega
theorem bnAll (xs : List St) : ∀ u ∈ xs.flatMap stF, u.oneCell' = true := by
 intro u hu
 obtain ⟨x, _, hx⟩ := List.mem_flatMap.1 hu
 exact st_one x u hx
theorem bnZero (W : World) : StRow (W.alloc (.cells #[] 84)) W.heap.size (.slice (some ⟨W.heap.size, 0, none⟩) 0 0) [] :=
 ⟨rfl, Or.inr ⟨W.heap.size, 0, #[], rfl, Nat.le_refl _, Deep.blk_alloc_new W (.cells #[] 84), Nat.le_refl _, by unfold maxLen; omega, rfl, rfl⟩⟩
structure BnS (C : Nat) (bs : List Int) (w0 : World) (f0 f1 f2 f3 : Int) (x v : Value) (xs : List St) (c : Cu) (w : World) : Prop where
 cur : CurAt w C bs c
 but : But (fun k => k = C) w0.heap.size w0 w
 tb : Boxed w w0.heap.size [.int .i64 f0, .int .i64 f1, .int .i64 f2, .int .i64 f3, x]
 rb : Boxed w (w0.heap.size + 1) [.int .i64 0, .int .i64 0, .int .i64 0, .int .i64 0, .slice none 0 0]
 row : StRow w (w0.heap.size + 1 + 1) v xs
 lt : C < w0.heap.size
theorem BnS.draw {C : Nat} {bs : List Int} {w0 : World} {f0 f1 f2 f3 : Int} {x v : Value} {xs : List St} {c c' : Cu} {w w' : World} (h : BnS C bs w0 f0 f1 f2 f3 x v xs c w) (hc : CurAt w' C bs c') (ho : Only (fun k => k = C) w w') : BnS C bs w0 f0 f1 f2 f3 x v xs c' w' :=
 have hl := h.lt
 ⟨hc, but_draw h.but ho, h.tb.onlyS ho (fun e => by omega), h.rb.onlyS ho (fun e => by omega), h.row.only ho (fun k hk e => by have := (h.row.lt k hk).1; omega), hl⟩
theorem BnS.below {C : Nat} {bs : List Int} {w0 : World} {f0 f1 f2 f3 : Int} {x v : Value} {xs : List St} {c : Cu} {w w' : World} (h : BnS C bs w0 f0 f1 f2 f3 x v xs c w) (hb : Below w.heap.size w w') : BnS C bs w0 f0 f1 f2 f3 x v xs c w' :=
 ⟨h.cur.below hb, but_below' h.but hb, h.tb.below hb, h.rb.below hb, h.row.below hb, h.lt⟩
theorem BnS.put {C : Nat} {bs : List Int} {w0 : World} {f0 f1 f2 f3 g0 g1 g2 g3 : Int} {x x' v : Value} {xs : List St} {c : Cu} {w : World} (h : BnS C bs w0 f0 f1 f2 f3 x v xs c w) (i : Nat) (hi : i < 5) (y : Value) (hy : [.int .i64 g0, .int .i64 g1, .int .i64 g2, .int .i64 g3, x'] = [.int .i64 f0, .int .i64 f1, .int .i64 f2, .int .i64 f3, x].set i y) : BnS C bs w0 g0 g1 g2 g3 x' v xs c (w.setCell ⟨w0.heap.size, i, none⟩ y) := by
 have hl := h.lt
 have hw := h.but.size
 refine ⟨h.cur.of_below (U := w0.heap.size) bw0 hl, h.but.trans (but_setCell w (p := ⟨w0.heap.size, i, none⟩) (Or.inr (Nat.le_refl _)) y), ?_, h.rb.apart (p := ⟨w0.heap.size, i, none⟩) (show w0.heap.size + 1 ≠ w0.heap.size by omega) _, h.row.setCell (p := ⟨w0.heap.size, i, none⟩) (show w0.heap.size < _ by omega) _, hl⟩
 have := h.tb.setI (i := i) (by simpa using hi) y
 rw [hy]
 exact this
theorem BnS.step {C : Nat} {bs : List Int} {w0 : World} {f0 f1 f2 f3 : Int} {x : Value} {g m cap : Nat} {xs : List St} {c : Cu} {w : World} (h : BnS C bs w0 f0 f1 f2 f3 x (.slice (some ⟨g, 0, none⟩) m cap) xs c w) {k : Nat} (hk : k < xs.length) {j : Nat} (hj : j < 2) (s : St) (y : Value) (hy : stF s = (stF xs[k]).set j y) : BnS C bs w0 f0 f1 f2 f3 x (.slice (some ⟨g, 0, none⟩) m cap) (xs.set k s) c (w.setCell ⟨g, k * 2 + j, none⟩ y) := by
 have hl := h.lt
 have hg := h.row.lt g rfl
 have ho : Only (fun i => i = g) w (w.setCell ⟨g, k * 2 + j, none⟩ y) := only_setCell (S := fun i => i = g) w (p := ⟨g, k * 2 + j, none⟩) rfl _
 exact ⟨h.cur.of_below (ho.below (B := w0.heap.size) h.but.size (fun i hi e => by omega)) hl, h.but.trans (but_only ho (fun i hi e => by omega) h.but.size), h.tb.onlyS ho (fun e => by omega), h.rb.onlyS ho (fun e => by omega), h.row.put stF_len hk hj s y hy, hl⟩
theorem BnS.grow {C : Nat} {bs : List Int} {w0 : World} {f0 f1 f2 f3 : Int} {x v v' : Value} {xs xs' : List St} {c : Cu} {w w' : World} (h : BnS C bs w0 f0 f1 f2 f3 x v xs c w) (hg : w.grownBy w' v.ownBlock) (hr : StRow w' (w0.heap.size + 1 + 1) v' xs') : BnS C bs w0 f0 f1 f2 f3 x v' xs' c w' := by
 have hl := h.lt
 have hge : ∀ k, v.ownBlock = some k → w0.heap.size + 1 + 1 ≤ k := fun k hk => (h.row.lt k hk).1
 exact ⟨h.cur.of_below (Below.grown (Below.refl w0.heap.size w) hg h.but.size (fun k hk => by have := hge k hk; omega)) hl, h.but.grown hg h.but.size (fun k hk => by have := hge k hk; omega), h.tb.grownE hg (fun e => by have := hge _ e; omega), h.rb.grownE hg (fun e => by have := hge _ e; omega), hr, hl⟩
structure BnF (C : Nat) (bs : List Int) (w0 : World) (t : Tr) (a : Option Addr) (cap : Nat) (c : Cu) (w : World) : Prop where
 cur : CurAt w C bs c
 but : But (fun k => k = C) w0.heap.size w0 w
 tb : Boxed w w0.heap.size [.int .i64 t.front.piece, .int .i64 t.front.at_, .int .i64 t.front.way, .int .i64 t.long, .slice a t.back.length cap]
 rb : Boxed w (w0.heap.size + 1) [.int .i64 0, .int .i64 0, .int .i64 0, .int .i64 0, .slice none 0 0]
 sts : StsAt (w0.heap.size + 1 + 1) w a t.back
 cp : t.back.length ≤ cap
 lt : C < w0.heap.size
theorem bn_sts {w : World} {base : Nat} {a : Option Addr} {m cap : Nat} {ps : List St} (h : StRow w base (.slice a m cap) ps) : StsAt base w a ps := by
 obtain ⟨a', cap', e, _, hc⟩ := stRow_at h
 simp only [Value.slice.injEq] at e
 rw [e.1]
 exact hc
theorem BnS.fin {C : Nat} {bs : List Int} {w0 : World} {f0 f1 f2 f3 : Int} {a : Option Addr} {m m' cap : Nat} {xs : List St} {c : Cu} {w : World} (h : BnS C bs w0 f0 f1 f2 f3 (.slice a m' cap) (.slice a m cap) xs c w) (hm : m' = xs.length) : BnF C bs w0 ⟨⟨f0, f1, f2⟩, f3, xs⟩ a cap c w := by
 subst hm
 obtain ⟨a', cap', e, hc, _⟩ := stRow_at h.row
 simp only [Value.slice.injEq] at e
 exact ⟨h.cur, h.but, h.tb, h.rb, bn_sts h.row, by rw [e.2.2]; exact hc, h.lt⟩
def RetBn (C : Nat) (bs : List Int) (K M : Nat) (w : World) (e : Ending) (w' : World) : Prop := ∃ t a cap c', e = .returned (trV t a cap) ∧ StsAt w.heap.size w' a t.back ∧ t.back.length ≤ cap ∧ t.back.length ≤ K ∧ CurAt w' C bs c' ∧ But (fun k => k = C) w.heap.size w w' ∧ c'.at_ ≤ M

set_option maxRecDepth 100000 in
set_option maxHeartbeats 8000000 in
theorem bend_any (C : Nat) (bs : List Int) (c : Cu) (t : Tr) (ta : Option Addr) (tc : Nat) (w : World) {L : Nat} (hcu : CurAt w C bs c) (hbs : BytesIn bs) (ha : c.at_ ≤ 1000000) (hst : StsAt L w ta t.back) (hl : t.back.length ≤ 1000) :
  Calls Tryz.prog 75 #[.pointer (some ⟨C, 0, none⟩), trV t ta tc] w (RetBn C bs (t.back.length + 1) (c.at_ + 10) w) := by
 have hCl := hcu.lt
 obtain ⟨i1, hi1, hy0, hy1, hy2⟩ := info_parts info_Step
 obtain ⟨⟨⟨f0, f1, f2⟩, f3, xs⟩, ht⟩ : ∃ u, t = u := ⟨_, rfl⟩
 subst ht
 unfold trV
 dsimp only at hst hl ⊢
 have HCU := hide hcu
 have HST := hide hst
 clear hcu hst
 go_enter Tryz.func75, Tryz.ntmps75
 go_upto_region 1 with fail
 obtain ⟨wa, hwa⟩ : ∃ wa, (w.alloc (.cells #[.int .i64 f0, .int .i64 f1, .int .i64 f2, .int .i64 f3, .slice ta xs.length tc] 32)).alloc (.cells #[.int .i64 0, .int .i64 0, .int .i64 0, .int .i64 0, .slice none 0 0] 32) = wa := ⟨_, rfl⟩
 have hba : Below w.heap.size w wa := by rw [← hwa]; exact bw0
 have hTb : Boxed wa w.heap.size [.int .i64 f0, .int .i64 f1, .int .i64 f2, .int .i64 f3, .slice ta xs.length tc] := by rw [← hwa]; exact (boxed_alloc _ _ _).alloc _
 have hRb : Boxed wa (w.heap.size + 1) [.int .i64 0, .int .i64 0, .int .i64 0, .int .i64 0, .slice none 0 0] := by rw [← hwa]; exact boxedN _ _ _ (by simp)
 have hsa : w.heap.size + 1 + 1 = wa.heap.size := by rw [← hwa]; simp
 have HB0 : Hid (BnS C bs w f0 f1 f2 f3 (.slice ta xs.length tc) (.slice none 0 0) [] c wa) := ⟨(unhide HCU).of_below hba hCl, but_of_below hba, hTb, hRb, Row.nil _ _ _ _ _, hCl⟩
 have HSA := hide hsa
 have HSTa := hide ((unhide HST).below hba)
 rw [hwa]
 have z4 := hTb.2.1 4 _ rfl
 have zl := hTb.1
 clear hwa hba hTb hRb hsa HCU HST
 go_cut [5] (fun y wx => ∃ g cap, y = .slice (some ⟨g, 0, none⟩) xs.length cap ∧ Hid (BnS C bs w f0 f1 f2 f3 (.slice ta xs.length tc) (.slice (some ⟨g, 0, none⟩) xs.length cap) xs c wx))
 case first =>
  have hz0 := bnZero wa
  have hbz : Below wa.heap.size wa (wa.alloc (.cells #[] 84)) := bw0
  have HZ := hide (unhide HSA ▸ hz0 : StRow (wa.alloc (.cells #[] 84)) (w.heap.size + 1 + 1) (.slice (some ⟨wa.heap.size, 0, none⟩) 0 0) [])
  have HBZ := hide ((unhide HB0).below hbz)
  have HB1 : Hid (BnS C bs w f0 f1 f2 f3 (.slice ta xs.length tc) (.slice (some ⟨wa.heap.size, 0, none⟩) 0 0) [] c (wa.alloc (.cells #[] 84))) := { unhide HBZ with row := unhide HZ }
  by_cases hnil : xs.length = 0
  ·rw [hnil] at z4
   have hxs := List.eq_nil_of_length_eq_zero hnil
   subst hxs
   clear hz0 hbz
   rcases ta with _ | ta
   ·go_wp2_with fail
    go_meet
    exact ⟨_, _, rfl, HB1⟩
   ·go_wp2_with fail
    go_meet
    exact ⟨_, _, rfl, HB1⟩
  ·have hpos : 0 < xs.length := by omega
   obtain ⟨sb, soff, hse, _, _⟩ := unhide HSTa 0 hpos
   subst hse
   clear hz0
   go_wp2_with (at_builtin; refine wpList_append_lies _ rfl (.tmp 6) (.tmp 8) 30 rfl (w.heap.size + 1 + 1) 84 i1 (.agg #[.int .i64 0, .int .i64 0]) 2 16 Tryz.underlying30 hi1 hy0 hy1 hy2 rfl (by decide) _ 0 [] rfl (unhide HZ) ⟨sb, soff, none⟩ xs.length tc (xs.flatMap stF) rfl ?d0 ?d1 (bnAll _) hpos ?d3 ?d4 ?d5 _ rfl ?_)
   case d0 => rw [flat_len stF_len]
   case d1 => exact bnNews ((unhide HSTa).below hbz)
   case d3 => (unfold maxLen; omega)
   case d4 => omega
   case d5 => (have := unhide HSA; simp only [World.size_alloc]; omega)
   intro g cap w5 hown hgrow _ _
   have hrow : StRow w5 (w.heap.size + 1 + 1) (.slice (some ⟨g, 0, none⟩) xs.length cap) xs := by
    show World.ownsRow _ _ _ _ _ xs.length (xs.flatMap stF)
    simpa using hown
   have HB2 := hide ((unhide HB1).grow hgrow hrow)
   clear hown hgrow hrow
   go_wp2_with fail
   go_meet
   exact ⟨_, _, rfl, HB2⟩
 case rest =>
  obtain ⟨g, cap, rfl, HB⟩ := hcut
  have HP := hide ((unhide HB).put (x' := .slice (some ⟨g, 0, none⟩) xs.length cap) 4 (by omega) (.slice (some ⟨g, 0, none⟩) xs.length cap) rfl)
  clear z4 zl
  have z4 := (unhide HB).tb.2.1 4 _ rfl
  have zz := (unhide HB).tb.2.2
  have zl := (unhide HB).tb.1
  go_upto_region 3 with fail
  generalize wc.setCell ⟨w.heap.size, 4, none⟩ (.slice (some ⟨g, 0, none⟩) xs.length cap) = w2 at HP ⊢
  clear z4 zz zl HB HB0
  have hpi := pickC_in bs c 7
  have hpa := pickC_at bs c 7
  go_wp2_with fail
  refine (pick_any C bs c 7 w2 (unhide HP).cur hbs (by omega) (by omega)).mono ?_
  rintro e w3 ⟨rfl, hc3, ho3⟩
  have HS3 := hide ((unhide HP).draw hc3 ho3)
  obtain ⟨⟨P, c1⟩, hpc⟩ : ∃ y, pickC bs c 7 = y := ⟨_, rfl⟩
  rw [hpc] at hpi hpa HS3 ⊢
  dsimp only at hpi hpa HS3 ⊢
  clear hc3 ho3 HP hpc
  go_upto_block 0 with fail
  go_cut [] (fun wx => ∃ t' a' cap' c', Hid (BnF C bs w t' a' cap' c' wx) ∧ t'.back.length ≤ xs.length + 1 ∧ c'.at_ ≤ c.at_ + 10)
  case first =>
   have z0 := (unhide HS3).tb.2.1 0 _ rfl
   have z1 := (unhide HS3).tb.2.1 1 _ rfl
   have z2 := (unhide HS3).tb.2.1 2 _ rfl
   have z3 := (unhide HS3).tb.2.1 3 _ rfl
   have z4 := (unhide HS3).tb.2.1 4 _ rfl
   have zz := (unhide HS3).tb.2.2
   have zl := (unhide HS3).tb.1
   obtain h0 | h1 | h2 | h3 | h4 | h5 | h6 : P = 0 ∨ P = 1 ∨ P = 2 ∨ P = 3 ∨ P = 4 ∨ P = 5 ∨ P = 6 := by omega
   ·subst h0
    have hpi4 := pickC_in bs c1 200
    have hpa4 := pickC_at bs c1 200
    go_upto_region 7 with fail
    refine wp_region_last (S := fun w' => w'.cell? ⟨w.heap.size, 3, none⟩ = some (.int .i64 f3)) 7 (by kernel_rfl) ?_ (fun hHeld => ?_)
    ·exact ((unhide HS3).below (bw0 : Below w3.heap.size w3 w3.drew)).tb.2.1 3 _ rfl
    refine wpAnyL_take (i := 0) [1, 5, 6, 7] (v := ?vq71) rfl (by kernel_rfl) rfl (by simp) (fun _ _ _ h => h) (Or.inl ⟨by rfl, ?yq71⟩) (by assumption) ?rq71
    case yq71 => (intro w0 hSw; (try dsimp only at hSw); go_simp; (try with_reducible rfl))
    (try simp only [Act.put, List.getElem_toArray, List.getElem_cons_zero, List.getElem_cons_succ, List.setIfInBounds_toArray, List.set_cons_zero, List.set_cons_succ])
    refine wpAnyL_take (i := 1) [5, 6, 7] (v := ?vq72) rfl (by kernel_rfl) rfl (by simp) (fun _ _ _ h => h) (Or.inl ⟨by rfl, ?yq72⟩) (by assumption) ?rq72
    case yq72 => (intro w0 hSw; (try dsimp only at hSw); go_simp; (try with_reducible rfl))
    (try simp only [Act.put, List.getElem_toArray, List.getElem_cons_zero, List.getElem_cons_succ, List.setIfInBounds_toArray, List.set_cons_zero, List.set_cons_succ])
    refine wpAnyL_take (i := 2) [3, 4, 5, 6, 7] (v := ?vq73) rfl (by kernel_rfl) rfl (by simp) (fun _ _ _ h => h) (Or.inl ⟨by rfl, ?yq73⟩) (by assumption) ?rq73
    case yq73 => (intro w0 hSw; (try dsimp only at hSw); go_simp; (try with_reducible rfl))
    (try simp only [Act.put, List.getElem_toArray, List.getElem_cons_zero, List.getElem_cons_succ, List.setIfInBounds_toArray, List.set_cons_zero, List.set_cons_succ])
    refine wpAnyL_ready (rs := [3]) (by kernel_rfl) (by simp) ?_
    refine (AllReadyL.cons rfl (fun K hK => ?_) AllReadyL.nil)
    go_simp
    have hSd := (unhide HS3).below (bw0 : Below w3.heap.size w3 w3.drew)
    refine (pick_any C bs c1 200 _ hSd.cur hbs (by omega) (by omega)).mono ?_
    rintro e w4 ⟨rfl, hc4, ho4⟩
    have HS4 := hide (hSd.draw hc4 ho4)
    obtain ⟨⟨Q, c2⟩, hpc⟩ : ∃ y, pickC bs c1 200 = y := ⟨_, rfl⟩
    rw [hpc] at hpi4 hpa4 HS4 ⊢
    dsimp only at hpi4 hpa4 HS4 ⊢
    have hws : IntKind.i64.wrap (Q - 100) = Q - 100 := wrap_small (by omega) (by omega)
    have y3 := (unhide HS4).tb.2.1 3 _ rfl
    have yz := (unhide HS4).tb.2.2
    have yl := (unhide HS4).tb.1
    clear hc4 ho4 hpc hSd
    refine hK.out _ _ (fun _ => y3) (fun _ => ?_)
    clear hK K
    (try simp only [Act.put, List.getElem_toArray, List.getElem_cons_zero, List.getElem_cons_succ, List.setIfInBounds_toArray, List.set_cons_zero, List.set_cons_succ])
    refine wpAnyL_take (i := 4) [5, 6, 7] (v := ?vq74) rfl (by kernel_rfl) rfl (by simp) (fun _ _ _ h => h) (Or.inl ⟨by rfl, ?yq74⟩) (by assumption) ?rq74
    case yq74 => (intro w0 hSw; (try dsimp only at hSw); go_simp; (try with_reducible rfl))
    (try simp only [Act.put, List.getElem_toArray, List.getElem_cons_zero, List.getElem_cons_succ, List.setIfInBounds_toArray, List.set_cons_zero, List.set_cons_succ])
    refine wpAnyL_take (i := 5) [6, 7] (v := ?vq75) rfl (by kernel_rfl) rfl (by simp) (fun _ _ _ h => h) (Or.inl ⟨by rfl, ?yq75⟩) (by assumption) ?rq75
    case yq75 => (intro w0 hSw; (try dsimp only at hSw); go_simp; (try with_reducible rfl))
    (try simp only [Act.put, List.getElem_toArray, List.getElem_cons_zero, List.getElem_cons_succ, List.setIfInBounds_toArray, List.set_cons_zero, List.set_cons_succ])
    refine wpAnyL_take (i := 6) [7] (v := ?vq76) rfl (by kernel_rfl) rfl (by simp) (fun _ _ _ h => h) (Or.inl ⟨by rfl, ?yq76⟩) (by assumption) ?rq76
    case yq76 => (intro w0 hSw; (try dsimp only at hSw); go_simp; (try with_reducible rfl))
    (try simp only [Act.put, List.getElem_toArray, List.getElem_cons_zero, List.getElem_cons_succ, List.setIfInBounds_toArray, List.set_cons_zero, List.set_cons_succ])
    refine wpAnyL_ready (rs := [7]) (by kernel_rfl) (by simp) ?_
    refine (AllReadyL.cons rfl (fun K hK => ?_) AllReadyL.nil)
    go_simp
    refine hK.out _ _ (fun h => absurd rfl h) (fun _ => ?_)
    clear hK K
    (try simp only [Act.put, List.getElem_toArray, List.getElem_cons_zero, List.getElem_cons_succ, List.setIfInBounds_toArray, List.set_cons_zero, List.set_cons_succ])
    refine wpAnyL_done (by kernel_rfl) ?_ _

    have HF := hide ((unhide HS4).put (g3 := IntKind.i64.wrap (f3 + (Q - 100))) 3 (by omega) (.int .i64 (IntKind.i64.wrap (f3 + (Q - 100)))) rfl)
    go_wp2_with fail
    go_meet
    exact ⟨_, _, _, c2, hide ((unhide HF).fin rfl), by simp, by omega⟩
   ·subst h1
    have hpi4 := pickC_in bs c1 40
    have hpa4 := pickC_at bs c1 40
    go_upto_region 9 with fail
    refine wp_region_last (S := fun w' => w'.cell? ⟨w.heap.size, 1, none⟩ = some (.int .i64 f1)) 9 (by kernel_rfl) ?_ (fun hHeld => ?_)
    ·exact ((unhide HS3).below (bw0 : Below w3.heap.size w3 w3.drew)).tb.2.1 1 _ rfl
    refine wpAnyL_take (i := 0) [1, 2, 6, 7, 8, 9] (v := ?vq91) rfl (by kernel_rfl) rfl (by simp) (fun _ _ _ h => h) (Or.inl ⟨by rfl, ?yq91⟩) (by assumption) ?rq91
    case yq91 => (intro w0 hSw; (try dsimp only at hSw); go_simp; (try with_reducible rfl))
    (try simp only [Act.put, List.getElem_toArray, List.getElem_cons_zero, List.getElem_cons_succ, List.setIfInBounds_toArray, List.set_cons_zero, List.set_cons_succ])
    refine wpAnyL_take (i := 1) [2, 6, 7, 8, 9] (v := ?vq92) rfl (by kernel_rfl) rfl (by simp) (fun _ _ _ h => h) (Or.inl ⟨by rfl, ?yq92⟩) (by assumption) ?rq92
    case yq92 => (intro w0 hSw; (try dsimp only at hSw); go_simp; (try with_reducible rfl))
    (try simp only [Act.put, List.getElem_toArray, List.getElem_cons_zero, List.getElem_cons_succ, List.setIfInBounds_toArray, List.set_cons_zero, List.set_cons_succ])
    refine wpAnyL_take (i := 2) [6, 7, 8, 9] (v := ?vq93) rfl (by kernel_rfl) rfl (by simp) (fun _ _ _ h => h) (Or.inl ⟨by rfl, ?yq93⟩) (by assumption) ?rq93
    case yq93 => (intro w0 hSw; (try dsimp only at hSw); go_simp; (try with_reducible rfl))
    (try simp only [Act.put, List.getElem_toArray, List.getElem_cons_zero, List.getElem_cons_succ, List.setIfInBounds_toArray, List.set_cons_zero, List.set_cons_succ])
    refine wpAnyL_take (i := 3) [4, 5, 6, 7, 8, 9] (v := ?vq94) rfl (by kernel_rfl) rfl (by simp) (fun _ _ _ h => h) (Or.inl ⟨by rfl, ?yq94⟩) (by assumption) ?rq94
    case yq94 => (intro w0 hSw; (try dsimp only at hSw); go_simp; (try with_reducible rfl))
    (try simp only [Act.put, List.getElem_toArray, List.getElem_cons_zero, List.getElem_cons_succ, List.setIfInBounds_toArray, List.set_cons_zero, List.set_cons_succ])
    refine wpAnyL_ready (rs := [4]) (by kernel_rfl) (by simp) ?_
    refine (AllReadyL.cons rfl (fun K hK => ?_) AllReadyL.nil)
    go_simp
    have hSd := (unhide HS3).below (bw0 : Below w3.heap.size w3 w3.drew)
    refine (pick_any C bs c1 40 _ hSd.cur hbs (by omega) (by omega)).mono ?_
    rintro e w4 ⟨rfl, hc4, ho4⟩
    have HS4 := hide (hSd.draw hc4 ho4)
    obtain ⟨⟨Q, c2⟩, hpc⟩ : ∃ y, pickC bs c1 40 = y := ⟨_, rfl⟩
    rw [hpc] at hpi4 hpa4 HS4 ⊢
    dsimp only at hpi4 hpa4 HS4 ⊢
    have hws : IntKind.i64.wrap (Q - 20) = Q - 20 := wrap_small (by omega) (by omega)
    have y1 := (unhide HS4).tb.2.1 1 _ rfl
    have yz := (unhide HS4).tb.2.2
    have yl := (unhide HS4).tb.1
    clear hc4 ho4 hpc hSd
    refine hK.out _ _ (fun _ => y1) (fun _ => ?_)
    clear hK K
    (try simp only [Act.put, List.getElem_toArray, List.getElem_cons_zero, List.getElem_cons_succ, List.setIfInBounds_toArray, List.set_cons_zero, List.set_cons_succ])
    refine wpAnyL_take (i := 5) [6, 7, 8, 9] (v := ?vq95) rfl (by kernel_rfl) rfl (by simp) (fun _ _ _ h => h) (Or.inl ⟨by rfl, ?yq95⟩) (by assumption) ?rq95
    case yq95 => (intro w0 hSw; (try dsimp only at hSw); go_simp; (try with_reducible rfl))
    (try simp only [Act.put, List.getElem_toArray, List.getElem_cons_zero, List.getElem_cons_succ, List.setIfInBounds_toArray, List.set_cons_zero, List.set_cons_succ])
    refine wpAnyL_take (i := 6) [7, 8, 9] (v := ?vq96) rfl (by kernel_rfl) rfl (by simp) (fun _ _ _ h => h) (Or.inl ⟨by rfl, ?yq96⟩) (by assumption) ?rq96
    case yq96 => (intro w0 hSw; (try dsimp only at hSw); go_simp; (try with_reducible rfl))
    (try simp only [Act.put, List.getElem_toArray, List.getElem_cons_zero, List.getElem_cons_succ, List.setIfInBounds_toArray, List.set_cons_zero, List.set_cons_succ])
    refine wpAnyL_take (i := 7) [8, 9] (v := ?vq97) rfl (by kernel_rfl) rfl (by simp) (fun _ _ _ h => h) (Or.inl ⟨by rfl, ?yq97⟩) (by assumption) ?rq97
    case yq97 => (intro w0 hSw; (try dsimp only at hSw); go_simp; (try with_reducible rfl))
    (try simp only [Act.put, List.getElem_toArray, List.getElem_cons_zero, List.getElem_cons_succ, List.setIfInBounds_toArray, List.set_cons_zero, List.set_cons_succ])
    refine wpAnyL_take (i := 8) [9] (v := ?vq98) rfl (by kernel_rfl) rfl (by simp) (fun _ _ _ h => h) (Or.inl ⟨by rfl, ?yq98⟩) (by assumption) ?rq98
    case yq98 => (intro w0 hSw; (try dsimp only at hSw); go_simp; (try with_reducible rfl))
    (try simp only [Act.put, List.getElem_toArray, List.getElem_cons_zero, List.getElem_cons_succ, List.setIfInBounds_toArray, List.set_cons_zero, List.set_cons_succ])
    refine wpAnyL_ready (rs := [9]) (by kernel_rfl) (by simp) ?_
    refine (AllReadyL.cons rfl (fun K hK => ?_) AllReadyL.nil)
    go_simp
    refine hK.out _ _ (fun h => absurd rfl h) (fun _ => ?_)
    clear hK K
    (try simp only [Act.put, List.getElem_toArray, List.getElem_cons_zero, List.getElem_cons_succ, List.setIfInBounds_toArray, List.set_cons_zero, List.set_cons_succ])
    refine wpAnyL_done (by kernel_rfl) ?_ _

    have HF := hide ((unhide HS4).put (g1 := IntKind.i64.wrap (f1 + (Q - 20))) 1 (by omega) (.int .i64 (IntKind.i64.wrap (f1 + (Q - 20)))) rfl)
    go_wp2_with fail
    go_meet
    exact ⟨_, _, _, c2, hide ((unhide HF).fin rfl), by simp, by omega⟩
   ·subst h2
    have HF := hide ((unhide HS3).put (g2 := wrap64 (-f2)) 2 (by omega) (.int .i64 (wrap64 (-f2))) rfl)
    go_wp2_with fail
    go_meet
    exact ⟨_, _, _, c1, hide ((unhide HF).fin rfl), by simp, by omega⟩
   ·subst h3
    by_cases hz : 0 < xs.length
    ·have hz' : (0 : Int) < (xs.length : Int) := by omega
     have hpi4 := pickC_in bs c1 xs.length
     have hpa4 := pickC_at bs c1 xs.length
     clear z0 z1 z2 z3 z4 zz zl
     go_wp2_with fail
     refine (pick_any C bs c1 xs.length _ (unhide HS3).cur hbs (by omega) (by omega)).mono ?_
     rintro e w4 ⟨rfl, hc4, ho4⟩
     have HS4 := hide ((unhide HS3).draw hc4 ho4)
     obtain ⟨⟨Q, c2⟩, hpc⟩ : ∃ y, pickC bs c1 xs.length = y := ⟨_, rfl⟩
     rw [hpc] at hpi4 hpa4 HS4 ⊢
     dsimp only at hpi4 hpa4 HS4 ⊢
     obtain ⟨k, rfl⟩ := Int.eq_ofNat_of_zero_le hpi4.1
     have hk : k < xs.length := by omega
     have hk' : (k : Int) < (xs.length : Int) := by omega
     have hpi5 := pickC_in bs c2 4
     have hpa5 := pickC_at bs c2 4
     clear hc4 ho4 hpc
     go_wp2_with fail
     refine (pick_any C bs c2 4 _ (unhide HS4).cur hbs (by omega) (by omega)).mono ?_
     rintro e w5 ⟨rfl, hc5, ho5⟩
     have HS5 := hide ((unhide HS4).draw hc5 ho5)
     obtain ⟨⟨B, c3⟩, hpc⟩ : ∃ y, pickC bs c2 4 = y := ⟨_, rfl⟩
     rw [hpc] at hpi5 hpa5 HS5 ⊢
     dsimp only at hpi5 hpa5 HS5 ⊢
     have hws : IntKind.i64.wrap (B - 2) = B - 2 := wrap_small (by omega) (by omega)
     have HF := hide ((unhide HS5).step hk (j := 1) (by omega) ⟨xs[k].piece, B - 2⟩ (.int .i64 (B - 2)) rfl)
     obtain ⟨b', off', hbe, hbl, d0, d1⟩ := bn_sts (unhide HS5).row k hk
     simp only [Option.some.injEq, Addr.mk.injEq, and_true] at hbe
     obtain ⟨rfl, rfl⟩ := hbe
     simp only [Nat.zero_add] at d0 d1
     have gz := (unhide HS5).row.free
     have gl := hbl.2
     clear hc5 ho5 hpc hbl
     go_wp2_with fail
     go_meet
     exact ⟨_, _, _, c3, hide ((unhide HF).fin (by simp)), by simp, by omega⟩
    ·have hz' : ¬ (0 : Int) < (xs.length : Int) := by omega
     go_wp2_with fail
     go_meet
     exact ⟨_, _, _, c1, hide ((unhide HS3).fin rfl), by simp, by omega⟩
   ·subst h4
    have hpi4 := pickC_in bs c1 6
    have hpa4 := pickC_at bs c1 6
    clear z0 z1 z2 z3 z4 zz zl
    go_wp2_with fail
    refine (pick_any C bs c1 6 _ (unhide HS3).cur hbs (by omega) (by omega)).mono ?_
    rintro e w4 ⟨rfl, hc4, ho4⟩
    have HS4 := hide ((unhide HS3).draw hc4 ho4)
    obtain ⟨⟨Q, c2⟩, hpc⟩ : ∃ y, pickC bs c1 6 = y := ⟨_, rfl⟩
    rw [hpc] at hpi4 hpa4 HS4 ⊢
    dsimp only at hpi4 hpa4 HS4 ⊢
    have hsz4 := (unhide HS4).rb.1
    clear hc4 ho4 hpc
    go_wp2_with (at_builtin; refine wpList_append_lies _ rfl (.tmp 71) (.tmp 75) 30 rfl (w.heap.size + 1 + 1) 84 i1 (.agg #[.int .i64 0, .int .i64 0]) 2 16 Tryz.underlying30 hi1 hy0 hy1 hy2 rfl (by decide) _ xs.length (xs.flatMap stF) rfl (owns_below (unhide HS4).row bw0) ⟨w4.heap.size, 0, none⟩ 1 1 (stF ⟨Q, 1⟩) rfl rfl (box_news (vs := stF ⟨Q, 1⟩) (boxed_alloc _ _ _)) (st_one _) (by omega) (by unfold maxLen; omega) (by omega) (by first | omega | (simp; omega)) _ rfl ?_)
    intro gE capE w6 hown hgrow hat hlt6
    have hbX : Below w4.heap.size w4 (w4.alloc (.cells #[.int .i64 Q, .int .i64 1] 84)) := bw0
    have HG := hide (((unhide HS4).below hbX).grow hgrow (xs' := xs ++ [⟨Q, 1⟩]) (Row.snoc hown))
    have HF := hide ((unhide HG).put (x' := .slice (some ⟨gE, 0, none⟩) (xs.length + 1) capE) 4 (by omega) (.slice (some ⟨gE, 0, none⟩) (xs.length + 1) capE) rfl)
    have z4 := (unhide HG).tb.2.1 4 _ rfl
    have zz := (unhide HG).tb.2.2
    have zl := (unhide HG).tb.1
    clear hown hgrow hat hlt6 hbX
    go_wp2_with fail
    go_meet
    exact ⟨_, _, _, c2, hide ((unhide HF).fin (by simp)), by simp, by omega⟩
   ·subst h5
    by_cases hz : 0 < xs.length
    ·have hz' : (0 : Int) < (xs.length : Int) := by omega
     have hcap : xs.length ≤ cap := by
      obtain ⟨_, _, e, hc, _⟩ := stRow_at (unhide HS3).row
      simp only [Value.slice.injEq] at e
      omega
     have HD : Hid (∀ a' cap', (xs.length = 1 ∨ a' = some ⟨g, 2, none⟩) → xs.length - 1 ≤ cap' → BnF C bs w ⟨⟨f0, f1, f2⟩, f3, xs.drop 1⟩ a' cap' c1 (w3.setCell ⟨w.heap.size, 4, none⟩ (.slice a' (xs.length - 1) cap'))) := by
      intro a' cap' hor hcp
      have hP := (unhide HS3).put (x' := .slice a' (xs.length - 1) cap') 4 (by omega) (.slice a' (xs.length - 1) cap') rfl
      have hdl : (xs.drop 1).length = xs.length - 1 := by simp
      refine ⟨hP.cur, hP.but, by dsimp only; rw [hdl]; exact hP.tb, hP.rb, fun j hj => ?_, by dsimp only; omega, hP.lt⟩
      rw [hdl] at hj
      obtain ⟨b', off', hbe, hbl, q0, q1⟩ := bn_sts hP.row (1 + j) (by omega)
      simp only [Option.some.injEq, Addr.mk.injEq, and_true] at hbe
      obtain ⟨rfl, rfl⟩ := hbe
      rcases hor with h | h
      ·omega
      ·refine ⟨g, 2, h, hbl, ?_, ?_⟩
       ·simp only [List.getElem_drop]
        rw [show 2 + j * 2 = 0 + (1 + j) * 2 by omega]
        exact q0
       ·simp only [List.getElem_drop]
        rw [show 2 + j * 2 + 1 = 0 + (1 + j) * 2 + 1 by omega]
        exact q1
     by_cases hc1 : cap = 1
     ·subst hc1
      have hz1 : xs.length = 1 := by omega
      go_wp2_with fail
      go_meet
      have hR := unhide HD (some ⟨g, 0, none⟩) 0 (Or.inl hz1) (by omega)
      rw [hz1] at hR
      exact ⟨_, _, _, c1, hide hR, by simp; omega, by omega⟩
     ·have hc1' : ¬ cap - 1 = 0 := by omega
      go_wp2_with fail
      go_meet
      exact ⟨_, _, _, c1, hide (unhide HD _ _ (Or.inr rfl) (by omega)), by simp; omega, by omega⟩
    ·have hz' : ¬ (0 : Int) < (xs.length : Int) := by omega
     go_wp2_with fail
     go_meet
     exact ⟨_, _, _, c1, hide ((unhide HS3).fin rfl), by simp, by omega⟩
   ·subst h6
    by_cases hz : 0 < xs.length
    ·have hz' : (0 : Int) < (xs.length : Int) := by omega
     have hpi4 := pickC_in bs c1 xs.length
     have hpa4 := pickC_at bs c1 xs.length
     clear z0 z1 z2 z3 z4 zz zl
     go_wp2_with fail
     refine (pick_any C bs c1 xs.length _ (unhide HS3).cur hbs (by omega) (by omega)).mono ?_
     rintro e w4 ⟨rfl, hc4, ho4⟩
     have HS4 := hide ((unhide HS3).draw hc4 ho4)
     obtain ⟨⟨Q, c2⟩, hpc⟩ : ∃ y, pickC bs c1 xs.length = y := ⟨_, rfl⟩
     rw [hpc] at hpi4 hpa4 HS4 ⊢
     dsimp only at hpi4 hpa4 HS4 ⊢
     obtain ⟨k, rfl⟩ := Int.eq_ofNat_of_zero_le hpi4.1
     have hk : k < xs.length := by omega
     have hk' : (k : Int) < (xs.length : Int) := by omega
     have hpi5 := pickC_in bs c2 9
     have hpa5 := pickC_at bs c2 9
     clear hc4 ho4 hpc
     go_wp2_with fail
     refine (pick_any C bs c2 9 _ (unhide HS4).cur hbs (by omega) (by omega)).mono ?_
     rintro e w5 ⟨rfl, hc5, ho5⟩
     have HS5 := hide ((unhide HS4).draw hc5 ho5)
     obtain ⟨⟨B, c3⟩, hpc⟩ : ∃ y, pickC bs c2 9 = y := ⟨_, rfl⟩
     rw [hpc] at hpi5 hpa5 HS5 ⊢
     dsimp only at hpi5 hpa5 HS5 ⊢
     skip
     have HF := hide ((unhide HS5).step hk (j := 0) (by omega) ⟨B, xs[k].way⟩ (.int .i64 B) rfl)
     obtain ⟨b', off', hbe, hbl, d0, d1⟩ := bn_sts (unhide HS5).row k hk
     simp only [Option.some.injEq, Addr.mk.injEq, and_true] at hbe
     obtain ⟨rfl, rfl⟩ := hbe
     simp only [Nat.zero_add] at d0 d1
     have gz := (unhide HS5).row.free
     have gl := hbl.2
     clear hc5 ho5 hpc hbl
     go_wp2_with fail
     go_meet
     exact ⟨_, _, _, c3, hide ((unhide HF).fin (by simp)), by simp, by omega⟩
    ·have hz' : ¬ (0 : Int) < (xs.length : Int) := by omega
     go_wp2_with fail
     go_meet
     exact ⟨_, _, _, c1, hide ((unhide HS3).fin rfl), by simp, by omega⟩
  case rest =>
   obtain ⟨t', a', cap', c', HF, hbk, hat⟩ := hcut
   have q0 := (unhide HF).tb.2.1 0 _ rfl
   have q1 := (unhide HF).tb.2.1 1 _ rfl
   have q2 := (unhide HF).tb.2.1 2 _ rfl
   have q3 := (unhide HF).tb.2.1 3 _ rfl
   have q4 := (unhide HF).tb.2.1 4 _ rfl
   have ql := (unhide HF).tb.1
   have r0 := (unhide HF).rb.2.1 0 _ rfl
   have r1 := (unhide HF).rb.2.1 1 _ rfl
   have r2 := (unhide HF).rb.2.1 2 _ rfl
   have r3 := (unhide HF).rb.2.1 3 _ rfl
   have r4 := (unhide HF).rb.2.1 4 _ rfl
   have rz := (unhide HF).rb.2.2
   have rl := (unhide HF).rb.1
   go_wp2_with fail
   have hF := unhide HF
   have hl2 := hF.lt
   have hRB := ((((hF.rb.setI (i := 0) (by simp) (.int .i64 t'.front.piece)).setI (i := 1) (by simp) (.int .i64 t'.front.at_)).setI (i := 2) (by simp) (.int .i64 t'.front.way)).setI (i := 3) (by simp) (.int .i64 t'.long)).setI (i := 4) (by simp) (.slice a' t'.back.length cap')
   have hO : ∀ (W : World) (i : Nat) (y : Value), Only (fun k => k = w.heap.size + 1) W (W.setCell ⟨w.heap.size + 1, i, none⟩ y) := fun W i y => only_setCell (S := fun k => k = w.heap.size + 1) W (p := ⟨w.heap.size + 1, i, none⟩) rfl y
   have hOF := ((((hO wc 0 (.int .i64 t'.front.piece)).trans (hO _ 1 (.int .i64 t'.front.at_))).trans (hO _ 2 (.int .i64 t'.front.way))).trans (hO _ 3 (.int .i64 t'.long))).trans (hO _ 4 (.slice a' t'.back.length cap'))
   have y0 := hRB.2.1 0 _ rfl
   have y1 := hRB.2.1 1 _ rfl
   have y2 := hRB.2.1 2 _ rfl
   have y3 := hRB.2.1 3 _ rfl
   have y4 := hRB.2.1 4 _ rfl
   exact bodyPost_ret (v := trV t' a' cap') (by simp [trV, results, Tryz.results75, go_sem, y0, y1, y2, y3, y4]) rfl ⟨t', a', cap', c', rfl, fun i hi => by
    obtain ⟨b, off, e, hb, d0, d1⟩ := hF.sts i hi
    have hk := hOF.block b hb.2 (fun e => by omega)
    exact ⟨b, off, e, ⟨by omega, Nat.lt_of_lt_of_le hb.2 hOF.size⟩, (World.cell?_of_block (w := wc) (a := ⟨b, off + i * 2, none⟩) hk).trans d0, (World.cell?_of_block (w := wc) (a := ⟨b, off + i * 2 + 1, none⟩) hk).trans d1⟩, hF.cp, hbk, hF.cur.of_below (hOF.below (B := w.heap.size) hF.but.size (fun k hk e => by omega)) hl2, hF.but.trans (but_only hOF (fun k hk e => by omega) hF.but.size), hat⟩

end Go.Proofs.YtbdggfpfpjijoaaGreatDoor

