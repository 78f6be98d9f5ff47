import Derived.Test.YtbdggfpfpjijoaaGreatDoorMKt25
namespace Go.Proofs.YtbdggfpfpjijoaaGreatDoor
open Go.RowKit

set_option maxHeartbeats 400000 in
theorem spotTurned_any (s : Sp) (w : World) (hy : s.way = 1 ∨ s.way = -1) :
  Calls Tryz.prog 116 #[.agg #[.int .i64 s.piece, .int .i64 s.at_, .int .i64 s.way]] w fun e w' => e = .returned (.agg #[.int .i64 s.piece, .int .i64 s.at_, .int .i64 (-s.way)]) ∧ Below w.heap.size w w' := by
 have hneg : IntKind.i64.wrap (-s.way) = -s.way := wrap_small (by omega) (by omega)
 go_enter Tryz.func116, Tryz.ntmps116
 go_wp2
 exact bodyPost_ret (v := .agg #[.int .i64 s.piece, .int .i64 s.at_, .int .i64 (-s.way)]) (by simp [results, Tryz.results116, go_sem]) rfl ⟨rfl, bw0⟩

def ringL (xs : List St) : List Value := (List.range 404).map (fun j => bodyF (.slice none 0 0) (.slice none 0 0) (.slice none 0 0) ⟨0, 0, 0⟩ 0 0 xs (8 + j))
theorem ringL_len (xs : List St) : (ringL xs).length = 404 := by simp [ringL]
theorem ringL_get {xs : List St} {j : Nat} (hj : j < 404) : (ringL xs)[j]? = some (bodyF (.slice none 0 0) (.slice none 0 0) (.slice none 0 0) ⟨0, 0, 0⟩ 0 0 xs (8 + j)) := by simp [ringL, hj]
theorem bodyF_far (k0 k1 k2 : Value) (s : Sp) (long sp : Int) (xs : List St) (j : Nat) : bodyF k0 k1 k2 s long sp xs (8 + j) = bodyF (.slice none 0 0) (.slice none 0 0) (.slice none 0 0) ⟨0, 0, 0⟩ 0 0 xs (8 + j) := by
 unfold bodyF
 repeat rw [if_neg (show ¬ (8 + j = 0) by omega), if_neg (show ¬ (8 + j = 1) by omega), if_neg (show ¬ (8 + j = 2) by omega), if_neg (show ¬ (8 + j = 3) by omega), if_neg (show ¬ (8 + j = 4) by omega), if_neg (show ¬ (8 + j = 5) by omega), if_neg (show ¬ (8 + j = 6) by omega), if_neg (show ¬ (8 + j = 7) by omega)]
theorem bodyF_one (xs : List St) (j : Nat) : (bodyF (.slice none 0 0) (.slice none 0 0) (.slice none 0 0) ⟨0, 0, 0⟩ 0 0 xs j).oneCell' = true := by
 unfold bodyF
 repeat (first | rfl | split)
theorem ringL_one (xs : List St) : ∀ v ∈ ringL xs, v.oneCell' = true := by
 intro v hv
 obtain ⟨j, _, rfl⟩ := List.mem_map.1 hv
 exact bodyF_one xs _
theorem own_ring_range {w : World} {b : Nat} {k0 k1 k2 : Value} {s : Sp} {long sp : Int} {xs : List St} (h : OwnC w b 0 412 (bodyF k0 k1 k2 s long sp xs)) : w.rangeAt b 8 (ringL xs) := by
 intro j v hv
 have hj : j < 404 := by have := (List.getElem?_eq_some_iff.1 hv).1; rwa [ringL_len] at this
 rw [ringL_get hj] at hv
 rw [← hv, ← bodyF_far k0 k1 k2 s long sp xs j]
 have := (h.2 (8 + j) (by omega)).1
 rwa [Nat.zero_add] at this
theorem info_ring : (Tryz.prog.info? 87).map (·.size) = some 404 := by kernel_rfl
theorem zero_ring : Tryz.zeroCells87.size = 404 := by kernel_rfl
theorem ring_new (W : World) (xs : List St) (hx : xs.length ≤ 201) : RingC (W.alloc (.cells (ringL xs).toArray 87)) W.heap.size 0 0 xs := by
 obtain ⟨h1, h2, h3⟩ := boxed_alloc W (ringL xs).toArray 87
 refine ⟨fun j => bodyF (.slice none 0 0) (.slice none 0 0) (.slice none 0 0) ⟨0, 0, 0⟩ 0 0 xs (8 + j), ⟨h1, fun j hj => ⟨by rw [Nat.zero_add]; exact h2 j _ (by simpa using ringL_get hj), by rw [Nat.zero_add]; exact h3 j⟩⟩, by omega, hx, by simp [bodyF], by simp [bodyF], fun i hi => ?_⟩
 rw [show (0 + i) % 201 = i by omega]
 exact bodyF_ring _ _ _ _ _ _ xs (by omega)
theorem ring_store (W : World) (xs : List St) : (storeCells ⟨W.heap.size, 0, none⟩ (ringL xs)).run Tryz.prog (W.alloc (.cells Tryz.zeroCells87 87)) = .ok () (W.alloc (.cells (ringL xs).toArray 87)) := by
 have := run_storeCells_new (P := Tryz.prog) W 87 Tryz.zeroCells87 (ringL xs).toArray (by rw [info_ring]; simp [ringL_len]) (by rw [zero_ring]; simp [ringL_len]) (all_oneCell_toArray (ringL_one xs))
 simpa using this

theorem lay_turn (n : Nt) (t : Tr) (w0 W : World) (C fs : Nat) (k0 k1 k2 : Value) {L : Nat} (hk0 : TrkAt L w0 (.agg #[k0, k1, k2]) n) (hb : Below w0.heap.size w0 W) (hC : w0.heap.size ≤ C) (hG : NetGood n) (hF : TrainFits n t)
  (hR : RingC W C 0 fs (((⟨t.front.piece, t.front.way⟩ : St) :: t.back).dropLast)) :
  Calls Tryz.prog 114 #[.agg #[k0, k1, k2], .agg #[.int .i64 (turnTail n t).piece, .int .i64 (turnTail n t).at_, .int .i64 (turnTail n t).way], .int .i64 t.long, .func (.func 117) #[.pointer (some ⟨C, 0, none⟩)] #[]] W fun e w' =>
   e = .returned (.tuple #[bodyV k0 k1 k2 (turnTail n t) t.long (behind n (turnTail n t) - t.long + sumLen n (turnBack n t)) (turnBack n t), .bool true]) ∧ Only (fun k => k = C) W w' := by
 have hT := turnTail_ok hG hF
 have hlay := turn_lay hG hF
 obtain ⟨k0', k1', k2', hkv', hcall⟩ := lay_any NxFar (fun t wb => (∃ fs, RingC wb C 0 fs t) ∧ ∀ x ∈ t, StepOk n x) 117 C (((⟨t.front.piece, t.front.way⟩ : St) :: t.back).dropLast) (.agg #[k0, k1, k2]) n (turnTail n t) t.long W (L := L) (hk0.below hb) hG hT.1 hF.2.1 (fun W => by kernel_rfl) hR.lt
  (fun wb ho => hk0.below (hb.trans (ho.below hb.size (fun k hk => by omega))))
  ⟨⟨fs, hR⟩, turn_steps hF⟩
  (fun t x y hI hb => ⟨by obtain ⟨f, hr⟩ := hI.1; exact ⟨f, hr.kept hb hR.lt⟩, hI.2⟩)
  (fun t wa hI _ => by obtain ⟨⟨f, hr⟩, h2⟩ := hI; exact (takeFarTurned_any n C t wa f hr h2).mono fun e w' ⟨h, ho⟩ => ⟨h.imp id fun ⟨x, s', he, hn, hx, hI'⟩ => ⟨x, s', he, hn, hx, hI'⟩, ho⟩)
 simp at hkv'
 obtain ⟨rfl, rfl, rfl⟩ := hkv'
 refine hcall.mono fun e w' ⟨hret, ho⟩ => ⟨?_, ho⟩
 rcases hret with ⟨xs, r, hok, rfl⟩ | ⟨hno, _⟩
 ·obtain ⟨rfl, rfl⟩ := layOk_unique nxFar_fun hok hlay
  rfl
 ·exact absurd hno (layOk_no nxFar_fun hlay)

theorem tail_turn (n : Nt) (t : Tr) (B : Nat) (ka : Option Addr) (kca : Nat) (k1 k2 : Value) (w : World) {L : Nat} (h : OwnC w B 0 412 (bodyF (.slice ka n.pieces.length kca) k1 k2 t.front t.long (spare n t) t.back)) (hp : PcsAt L w ka n.pieces) (hG : NetGood n) (hF : TrainFits n t) :
  Calls Tryz.prog 115 #[.pointer (some ⟨B, 0, none⟩)] w fun e w' => e = .returned (.agg #[.int .i64 (tailOf n t).piece, .int .i64 (tailOf n t).at_, .int .i64 (tailOf n t).way]) ∧ Below w.heap.size w w' := by
 have hs := fits_spare hG hF
 have hst : StepOk n ⟨t.front.piece, t.front.way⟩ := ⟨hF.1.1, hF.1.2.1⟩
 have hl := lastOf_ok hst (backOk_steps hF.2.2.2)
 have hlen := hG.len hl.1.1 hl.1.2
 exact tail_any B n ka kca k1 k2 t.front t.long (spare n t) t.back w h hp hF.2.2.1 hl (by omega) (by omega) ⟨by omega, by omega⟩

def Zr (w : World) (b : Nat) : Prop := ∃ f, OwnC w b 0 412 f
theorem zr_alloc (W : World) : Zr (W.alloc (.cells Tryz.zeroCells89 89)) W.heap.size := ⟨_, own_zero W rfl⟩
theorem Zr.below {w w' : World} {b : Nat} (h : Zr w b) (hb : Below w.heap.size w w') : Zr w' b := by
 obtain ⟨f, h⟩ := h
 exact ⟨f, h.below hb⟩
theorem Zr.drew {w : World} {b : Nat} (h : Zr w b) : Zr w.drew b := h.below (Below.drew (Below.refl _ _))
theorem Zr.only {w w' : World} {b C : Nat} (h : Zr w b) (ho : Only (fun k => k = C) w w') (hb : b ≠ C) : Zr w' b := by
 obtain ⟨f, h⟩ := h
 exact ⟨f, h.only ho hb⟩
theorem zr_store {W : World} {l : List Value} (hl : l.length = 412) (h1 : ∀ v ∈ l, v.oneCell' = true) : ∀ b, Zr W b → (storeCells ⟨b, 0, none⟩ l).run Tryz.prog W = .ok () (W.setCells b 0 l) := fun b ⟨f, h⟩ => store_old W b f h l hl h1

theorem setCells_far (w : World) (b B o : Nat) (l : List Value) (h : B ≠ b) : (w.setCells b 0 l).cell? ⟨B, o, none⟩ = w.cell? ⟨B, o, none⟩ := World.cell?_of_block (w := w) (a := ⟨B, o, none⟩) (heap_setCells b l 0 w B h).1
theorem zr_put {w : World} {b : Nat} (h : Zr w b) (k0 k1 k2 : Value) (s : Sp) (long sp : Int) (xs : List St) : OwnC (w.setCells b 0 (bodyL k0 k1 k2 s long sp xs)) b 0 412 (bodyF k0 k1 k2 s long sp xs) := by
 obtain ⟨f, h⟩ := h
 exact own_put h rfl
theorem results_cell1 {fn : Func} {p : Tmp} {ty : TypeId} (h : fn.results = #[.cell p ty]) (tmps : Array Value) (P : Program) (w : World) :
  (results fn tmps).run P w = ((asAddr (tmps.getD p undef)).run P w).andThen fun a w₁ => (loadVar ty a).run P w₁ := by
 simp only [results, h]
 simp [Sem.run_bind, Result.andThen]
theorem bodyV_agg (k0 k1 k2 : Value) (s : Sp) (long sp : Int) (xs : List St) : bodyV k0 k1 k2 s long sp xs = .agg (bodyL k0 k1 k2 s long sp xs).toArray := rfl
theorem tailOf_way {n : Nt} {t : Tr} (hF : TrainFits n t) : (tailOf n t).way = 1 ∨ (tailOf n t).way = -1 :=
 (lastOf_ok (n := n) (s := ⟨t.front.piece, t.front.way⟩) ⟨hF.1.1, hF.1.2.1⟩ (backOk_steps hF.2.2.2)).2

set_option maxRecDepth 100000 in
set_option maxHeartbeats 8000000 in
theorem endsChanged_any (n : Nt) (t : Tr) (B : Nat) (ka : Option Addr) (kca : Nat) (k1 k2 : Value) (w : World) {L : Nat} (h : OwnC w B 0 412 (bodyF (.slice ka n.pieces.length kca) k1 k2 t.front t.long (spare n t) t.back))
  (hk : TrkAt L w (.agg #[.slice ka n.pieces.length kca, k1, k2]) n) (hG : NetGood n) (hF : TrainFits n t) :
  Calls Tryz.prog 50 #[.pointer (some ⟨B, 0, none⟩)] w fun e w' => (∃ r, e = .returned (bodyV (.slice ka n.pieces.length kca) k1 k2 (turnTail n t) t.long r (turnBack n t))) ∧ Below w.heap.size w w' := by
 go_enter Tryz.func50, Tryz.ntmps50
 go_wp2_with fail
 have hbA : Below w.heap.size w (w.alloc (.cells Tryz.zeroCells89 89)) := bw0
 have HOWN := hide (h.below hbA)
 have HRG := hide (own_ring_range (unhide HOWN))
 have hst := ring_store (w.alloc (.cells Tryz.zeroCells89 89)) t.back
 rw [World.size_alloc] at hst
 have hlR := ringL_len t.back
 have hB := h.1
 have c0 : w.cell? ⟨B, 0, none⟩ = some (.int .i64 t.front.piece) := by simpa [bodyF] using (h.2 0 (by omega)).1
 have c1 : w.cell? ⟨B, 1, none⟩ = some (.int .i64 t.front.at_) := by simpa [bodyF] using (h.2 1 (by omega)).1
 have c2 : w.cell? ⟨B, 2, none⟩ = some (.int .i64 t.front.way) := by simpa [bodyF] using (h.2 2 (by omega)).1
 have nB : ¬ B = w.heap.size := by omega
 have nB1 : ¬ B = w.heap.size + 1 := by omega
 have hB1 : B < w.heap.size + 1 := by omega
 refine wp_load_mid 87 (.tmp 8) rfl B 8 rfl (ringL t.back) _ (unhide HRG) Tryz.underlying87 rfl (by rw [info_ring, ringL_len]) ?_
 rename_i hKK
 refine hKK _ _ ?_
 simp only [Act.put, List.setIfInBounds_toArray, List.set_cons_zero, List.set_cons_succ]
 clear hKK
 go_wp2_with fail
 refine (step_any t.front _).mono ?_
 rintro e w1 ⟨rfl, hb1⟩
 have h200 := hF.2.2.1
 have hbAA : Below w.heap.size w ((w.alloc (.cells Tryz.zeroCells89 89)).alloc (.cells (ringL t.back).toArray 87)) := bw0
 have hbw1 := below_then hbAA hb1
 have hR1 : RingC w1 (w.heap.size + 1) 0 0 t.back := by
  have := (ring_new (w.alloc (.cells Tryz.zeroCells89 89)) t.back (by omega)).below hb1
  rwa [World.size_alloc] at this
 have hres1 : OwnC w1 w.heap.size 0 412 _ := ((own_zero w rfl).below (Below.alloc (Below.refl _ _) (Nat.le_refl _) _)).below hb1
 clear HRG hst hlR c0 c1 c2
 go_wp2_with fail
 refine (addNear_any (w.heap.size + 1) 0 0 t.back ⟨t.front.piece, t.front.way⟩ _ hR1 h200).mono ?_
 rintro e w2 ⟨⟨v, rfl⟩, ⟨fs', _, hR2, _⟩, ho2⟩
 have hsp : ((⟨t.front.piece, t.front.way⟩ : St) :: t.back) = ((⟨t.front.piece, t.front.way⟩ : St) :: t.back).dropLast ++ [((⟨t.front.piece, t.front.way⟩ : St) :: t.back).getLast (by simp)] := (List.dropLast_concat_getLast (by simp)).symm
 rw [hsp] at hR2
 clear hsp
 go_wp2_with fail
 refine (takeFar_any (w.heap.size + 1) 0 fs' _ _ _ hR2).mono ?_
 rintro e w3 ⟨rfl, hR3, ho3, _⟩
 have hb3 : Below w.heap.size w w3 := (hbw1.trans (ho2.below hbw1.size (fun k hk => by omega))).trans (ho3.below (Nat.le_trans hbw1.size ho2.size) (fun k hk => by omega))
 have hown3 := h.below hb3
 have hres3 := (hres1.only ho2 (by omega)).only ho3 (by omega)
 have hk3 := hk.below hb3
 have c0 : w3.cell? ⟨B, 0, none⟩ = some (.int .i64 t.front.piece) := by simpa [bodyF] using (hown3.2 0 (by omega)).1
 have c3 : w3.cell? ⟨B, 3, none⟩ = some (.slice ka n.pieces.length kca) := by simpa [bodyF] using (hown3.2 3 (by omega)).1
 have c4 : w3.cell? ⟨B, 4, none⟩ = some k1 := by simpa [bodyF] using (hown3.2 4 (by omega)).1
 have c5 : w3.cell? ⟨B, 5, none⟩ = some k2 := by simpa [bodyF] using (hown3.2 5 (by omega)).1
 have c6 : w3.cell? ⟨B, 6, none⟩ = some (.int .i64 t.long) := by simpa [bodyF] using (hown3.2 6 (by omega)).1
 go_upto_region 3 with fail
 have hmf : ∀ (fn : Fn) (first cap : Array Value) (W : World), (Instr.makeFunc fn first cap).run Tryz.prog W = .ok (.func fn first cap) W := fun _ _ _ _ => rfl
 have hBl3 := hown3.1
 have nB3 : ¬ B = w3.heap.size := by omega
 have hR3l := hR3.lt
 have HR3 := hide hR3
 have HOWN3 := hide hown3
 have HK := hide hk
 have hway := tailOf_way (n := n) hF
 have b3 : w.cell? ⟨B, 3, none⟩ = some (.slice ka n.pieces.length kca) := by simpa [bodyF] using (h.2 3 (by omega)).1
 have b4 : w.cell? ⟨B, 4, none⟩ = some k1 := by simpa [bodyF] using (h.2 4 (by omega)).1
 have b5 : w.cell? ⟨B, 5, none⟩ = some k2 := by simpa [bodyF] using (h.2 5 (by omega)).1
 have b6 : w.cell? ⟨B, 6, none⟩ = some (.int .i64 t.long) := by simpa [bodyF] using (h.2 6 (by omega)).1
 have sz3 := hb3.size
 have ne3 : w3.heap.size ≠ w.heap.size + 1 := by omega
 obtain ⟨ka1, kca1, ksh1, kcsh1, kst1, kcst1, hkv1, _⟩ := id hk
 have hone := bodyL_one (k0 := .slice ka n.pieces.length kca) (k1 := k1) (k2 := k2) (turnTail n t) t.long (behind n (turnTail n t) - t.long + sumLen n (turnBack n t)) (turnBack n t) rfl (by simp at hkv1; rw [hkv1.2.1]; rfl) (by simp at hkv1; rw [hkv1.2.2]; rfl)
 have hlB := bodyL_len (.slice ka n.pieces.length kca) k1 k2 (turnTail n t) t.long (behind n (turnTail n t) - t.long + sumLen n (turnBack n t)) (turnBack n t)
 have hzs : Tryz.zeroCells89.size = 412 := by rw [zero_cells, bodyL_size]
 clear hkv1
 clear hR3 hown3 hk3
 go_cut [4] (fun p wx => ∃ C, p = .pointer (some ⟨C, 0, none⟩) ∧ w3.heap.size ≤ C ∧ OwnC wx C 0 412 (bodyF (.slice ka n.pieces.length kca) k1 k2 (turnTail n t) t.long (behind n (turnTail n t) - t.long + sumLen n (turnBack n t)) (turnBack n t)) ∧ Only (fun k => k = w.heap.size + 1) w3 wx)
 case first =>
  go_region_held3 (fun w' => w'.cell? ⟨B, 3, none⟩ = some (.slice ka n.pieces.length kca) ∧ w'.cell? ⟨B, 4, none⟩ = some k1 ∧ w'.cell? ⟨B, 5, none⟩ = some k2 ∧ w'.cell? ⟨B, 6, none⟩ = some (.int .i64 t.long))
   (((try dsimp only); (repeat' apply And.intro)) <;> (go_keep; done))
   (first
    | (go_at_call 115; refine (tail_turn n t B ka kca k1 k2 _ ((unhide HOWN3).below bw0) ((unhide HK).below (below_then hb3 bw0)).pcs hG hF).mono ?_; rintro e w4 ⟨rfl, hb4⟩; have hb34 : Below w3.heap.size w3 w4 := (below_then bw0 hb4); obtain ⟨hc4, hf4⟩ := bcell hb34; have q0 := hc4 (B) (3) (by first | (simp; done) | (simp; omega) | omega); have q1 := hc4 (B) (4) (by first | (simp; done) | (simp; omega) | omega); have q2 := hc4 (B) (5) (by first | (simp; done) | (simp; omega) | omega); have q3 := hc4 (B) (6) (by first | (simp; done) | (simp; omega) | omega); have sz4 := hb34.size; have ne4 : w4.heap.size ≠ w.heap.size + 1 := (by omega); have nB4 : ¬ B = w4.heap.size := (by omega); clear hc4 hf4; (first | have hz4 : Zr w4 w3.heap.size := (zr_alloc w3).drew.below hb4 | have hz4 : Zr w4 w3.heap.size := (zr_alloc w3).below hb4 | skip))
    | (go_at_call 116; refine (spotTurned_any (tailOf n t) _ hway).mono ?_; rintro e w5 ⟨rfl, hb5⟩; have hb45 : Below w4.heap.size w4 w5 := (below_then bw0 hb5); have hb35 := below_then hb34 hb45; obtain ⟨hc5, hf5⟩ := bcell hb35; have qq0 := hc5 (B) (3) (by first | (simp; done) | (simp; omega) | omega); have qq1 := hc5 (B) (4) (by first | (simp; done) | (simp; omega) | omega); have qq2 := hc5 (B) (5) (by first | (simp; done) | (simp; omega) | omega); have qq3 := hc5 (B) (6) (by first | (simp; done) | (simp; omega) | omega); have sz5 := hb35.size; have ne5 : w5.heap.size ≠ w.heap.size + 1 := (by omega); have nB5 : ¬ B = w5.heap.size := (by omega); clear hc5 hf5; (first | have hz5 : Zr w5 w4.heap.size := (zr_alloc w4).drew.below hb5 | have hz5 : Zr w5 w4.heap.size := (zr_alloc w4).below hb5 | skip); (try have hz5b : Zr w5 w3.heap.size := hz4.below hb45))
    | (go_at_call 114; refine (lay_turn n t w _ (w.heap.size + 1) _ (.slice ka n.pieces.length kca) k1 k2 (unhide HK) (below_then hb3 (below_then hb35 bw0)) (by omega) hG hF ((unhide HR3).below (below_then hb35 bw0))).mono ?_; rintro e w6 ⟨rfl, ho6⟩; have hbw6 : Below w.heap.size w w6 := ((below_then hb3 (below_then hb35 bw0)).trans (ho6.below (by first | omega | (simp; omega)) (fun k hk => by omega))); have s3 := (hbw6.cell (p := ⟨B, 3, none⟩) hB).trans b3; have s4 := (hbw6.cell (p := ⟨B, 4, none⟩) hB).trans b4; have s5 := (hbw6.cell (p := ⟨B, 5, none⟩) hB).trans b5; have s6 := (hbw6.cell (p := ⟨B, 6, none⟩) hB).trans b6; have sz6 := hbw6.size; have nB6 : ¬ B = w6.heap.size := (by omega); have hst6 := store_new w6 _ hzs _ hlB hone; have hwb := bodyV_agg (.slice ka n.pieces.length kca) k1 k2 (turnTail n t) t.long (behind n (turnTail n t) - t.long + sumLen n (turnBack n t)) (turnBack n t); have hO6 : Only (fun k => k = w.heap.size + 1) w3 w6 := ((only_of_below (below_then hb35 bw0)).trans ho6); have f5 := (fun o => setCells_far w6 w5.heap.size B o (bodyL (.slice ka n.pieces.length kca) k1 k2 (turnTail n t) t.long (behind n (turnTail n t) - t.long + sumLen n (turnBack n t)) (turnBack n t)) nB5); have f4 := (fun o => setCells_far w6 w4.heap.size B o (bodyL (.slice ka n.pieces.length kca) k1 k2 (turnTail n t) t.long (behind n (turnTail n t) - t.long + sumLen n (turnBack n t)) (turnBack n t)) nB4); have f3 := (fun o => setCells_far w6 w3.heap.size B o (bodyL (.slice ka n.pieces.length kca) k1 k2 (turnTail n t) t.long (behind n (turnTail n t) - t.long + sumLen n (turnBack n t)) (turnBack n t)) nB3); have hsto := zr_store (W := w6) hlB hone; (first | have hz6 : Zr w6 w5.heap.size := (zr_alloc w5).drew.only ho6 ne5 | have hz6 : Zr w6 w5.heap.size := (zr_alloc w5).only ho6 ne5 | skip); (try have hz6b : Zr w6 w4.heap.size := (hz5.below bw0).only ho6 ne4); (try have hz6c : Zr w6 w3.heap.size := (hz5b.below bw0).only ho6 ne3)))
  all_goals go_wp2_with fail
  all_goals go_meet
  all_goals first
   | (refine ⟨_, rfl, hO6.size, own_new w6 _ _ _ _ _ _ _ _, ?_⟩; exact hO6.on (Below.alloc (Below.refl _ _) hO6.size _))
   | exact ⟨_, rfl, sz5, zr_put hz6 _ _ _ _ _ _ _, hO6.on (below_puts (Below.refl _ _) sz5 _)⟩
   | exact ⟨_, rfl, sz4, zr_put hz6b _ _ _ _ _ _ _, hO6.on (below_puts (Below.refl _ _) sz4 _)⟩
   | exact ⟨_, rfl, Nat.le_refl _, zr_put hz6c _ _ _ _ _ _ _, hO6.on (below_puts (Below.refl _ _) (Nat.le_refl _) _)⟩
 case rest =>
  obtain ⟨C, rfl, hC, hBC, hoc⟩ := hcut
  have hresc := hres3.only hoc (by omega)
  have hbwc : Below w.heap.size w wc := hb3.trans (hoc.below sz3 (fun k hk => by omega))
  have HRG := hide hBC.range
  have HTH : Hid (wc.there w.heap.size 0 (bodyL (.slice ka n.pieces.length kca) k1 k2 (turnTail n t) t.long (behind n (turnTail n t) - t.long + sumLen n (turnBack n t)) (turnBack n t)).toArray.size) := by
   have h := hresc.there
   unfold Hid
   rw [bodyL_size]
   exact h
  have hldv := loadVar_body _ _ _ (bodyL_len _ _ _ _ _ _ _) (own_put hresc rfl (k0 := .slice ka n.pieces.length kca) (k1 := k1) (k2 := k2) (s := turnTail n t) (long := t.long) (sp := behind n (turnTail n t) - t.long + sumLen n (turnBack n t)) (xs := turnBack n t)).range
  have hend := below_puts (B := w.heap.size) hbwc (Nat.le_refl _) (bodyL (.slice ka n.pieces.length kca) k1 k2 (turnTail n t) t.long (behind n (turnTail n t) - t.long + sumLen n (turnBack n t)) (turnBack n t))
  have HONE := hide hone
  clear hone hresc hBC c0 c3 c4 c5 c6 b3 b4 b5 b6
  go_wp2_with fail
  refine wp_load_mid 89 (.tmp 4) rfl C 0 rfl (bodyL (.slice ka n.pieces.length kca) k1 k2 (turnTail n t) t.long (behind n (turnTail n t) - t.long + sumLen n (turnBack n t)) (turnBack n t)) _ (unhide HRG) Tryz.underlying89 rfl (by rw [info_size, bodyL_len]) ?_
  rename_i hKK
  refine hKK _ _ ?_
  simp only [Act.put, List.setIfInBounds_toArray, List.set_cons_zero, List.set_cons_succ]
  refine wpList_store_mid rfl 89 (.tmp 2) (.tmp 33) rfl w.heap.size 0 (bodyL (.slice ka n.pieces.length kca) k1 k2 (turnTail n t) t.long (behind n (turnTail n t) - t.long + sumLen n (turnBack n t)) (turnBack n t)).toArray rfl rfl (unhide HTH) (by rw [info_size, bodyL_size]) (all_oneCell_toArray (unhide HONE)) ?_
  clear hKK
  go_wp2
  refine bodyPost_ret (v := .agg (bodyL (.slice ka n.pieces.length kca) k1 k2 (turnTail n t) t.long (behind n (turnTail n t) - t.long + sumLen n (turnBack n t)) (turnBack n t)).toArray) (by rw [results_cell1 rfl]; simp [Act.put, asAddr, Result.andThen, hldv]) rfl ⟨⟨_, rfl⟩, hend⟩

end Go.Proofs.YtbdggfpfpjijoaaGreatDoor

namespace Go.Proofs.YtbdggfpfpjijoaaGreatDoor
open Go.RowKit

theorem below_set5 {B N : Nat} {a w : World} (h : Below B a w) (hN : B ≤ N) (v0 v1 v2 v3 v4 : Value) :
  Below B a (((((w.setCell ⟨N, 0, none⟩ v0).setCell ⟨N, 1, none⟩ v1).setCell ⟨N, 2, none⟩ v2).setCell ⟨N, 3, none⟩ v3).setCell ⟨N, 4, none⟩ v4) :=
 ((((h.setCell (p := ⟨N, 0, none⟩) hN v0).setCell (p := ⟨N, 1, none⟩) hN v1).setCell (p := ⟨N, 2, none⟩) hN v2).setCell (p := ⟨N, 3, none⟩) hN v3).setCell (p := ⟨N, 4, none⟩) hN v4

set_option maxRecDepth 100000 in
set_option maxHeartbeats 8000000 in
theorem implTurned_any (v : Value) (n : Nt) (t : Tr) (ba : Option Addr) (bc : Nat) (w : World) {L : Nat} (hv : NetAt L w v n) (hst : StsAt 0 w ba t.back) (hcap : t.back.length ≤ bc) (hbl : t.back.length ≤ 1048576)
  (hl : n.pieces.length ≤ 1048576) (hl' : n.joints.length ≤ 1048576) (hle : ∀ i (h : i < n.joints.length), n.joints[i].name.size ≤ maxLen) (hnm : ∀ i (h : i < n.pieces.length), n.pieces[i].name.size ≤ maxLen) :
  Calls Tryz.prog 18 #[v, .agg #[.int .i64 t.front.piece, .int .i64 t.front.at_, .int .i64 t.front.way, .int .i64 t.long, .slice ba t.back.length bc]] w fun e w' => RetTrn (TurnIs n t) w.heap.size e w' ∧ Below w.heap.size w w' := by
 have hvv := hv
 obtain ⟨a, c, ca, cc, rfl, hp, hj⟩ := hv
 have hzs : Tryz.zeroCells89.size = 412 := by rw [zero_cells, bodyL_size]
 have HZS := hide hzs
 clear hzs
 go_enter Tryz.func18, Tryz.ntmps18
 go_wp2_with fail
 refine (bodyOn_any _ n t ba bc _ (L := L) ?hA ?hB hcap hbl hl hl' hle hnm).mono ?_
 case hA => exact hvv.below bw0
 case hB => exact hst.below bw0
 rintro e w1 ⟨hret, hb1⟩
 have hbw1 : Below w.heap.size w w1 := below_then bw0 hb1
 have hR1 : Boxed w1 (w.heap.size + 1 + 1) [.int .i64 0, .int .i64 0, .int .i64 0, .int .i64 0, .slice none 0 0] := (boxedN _ _ _ (by simp)).below hb1
 rcases hret with ⟨hR, k0, k1, k2, htk, ⟨o0, o1, o2⟩, rfl⟩ | ⟨hR, rfl⟩
 ·have hst5 := store_new w1 _ (unhide HZS) _ (bodyL_len k0 k1 k2 t.front t.long (spare n t) t.back) (bodyL_one _ _ _ _ o0 o1 o2)
  have hlB := bodyL_len k0 k1 k2 t.front t.long (spare n t) t.back
  have hA : Below w1.heap.size w1 (w1.alloc (.cells (bodyL k0 k1 k2 t.front t.long (spare n t) t.back).toArray 89)) := bw0
  have hown := own_new w1 k0 k1 k2 t.front t.long (spare n t) t.back 89
  have htk' := htk
  obtain ⟨ka, kca, ksh, kcsh, kst, kcst, hkv, _⟩ := htk'
  simp at hkv
  obtain ⟨rfl, rfl, rfl⟩ := hkv
  have hG := netGood hR.1
  have HR := hide hR
  have HOWN := hide hown
  have HTK := hide (htk.below hA)
  have hbwA := below_then hbw1 hA
  have hRA := hR1.below hA
  clear hR hown htk
  unfold bodyV
  go_wp2_with fail
  refine (endsChanged_any n t w1.heap.size ka kca _ _ _ (unhide HOWN) (unhide HTK) hG (unhide HR).2).mono ?_
  rintro e w2 ⟨⟨r, rfl⟩, hb2⟩
  have hbw2 := below_then hbwA hb2
  have hR2 := hRA.below hb2
  have hst6 := store_new w2 _ (unhide HZS) _ (bodyL_len (.slice ka n.pieces.length kca) (.slice ksh n.joints.length kcsh) (.slice kst n.pieces.length kcst) (turnTail n t) t.long r (turnBack n t)) (bodyL_one _ _ _ _ rfl rfl rfl)
  have hlB2 := bodyL_len (.slice ka n.pieces.length kca) (.slice ksh n.joints.length kcsh) (.slice kst n.pieces.length kcst) (turnTail n t) t.long r (turnBack n t)
  have hA2 : Below w2.heap.size w2 (w2.alloc (.cells (bodyL (.slice ka n.pieces.length kca) (.slice ksh n.joints.length kcsh) (.slice kst n.pieces.length kcst) (turnTail n t) t.long r (turnBack n t)).toArray 89)) := bw0
  have hown2 := own_new w2 (.slice ka n.pieces.length kca) (.slice ksh n.joints.length kcsh) (.slice kst n.pieces.length kcst) (turnTail n t) t.long r (turnBack n t) 89
  have hfew : (turnBack n t).length ≤ 201 := by have := turnBack_len (n := n) (t := t); have := (unhide HR).2.2.2.1; omega
  have HGB2 := hide (gb_of hown2 hfew)
  clear hown2
  unfold bodyV
  go_wp2_with fail
  refine (train_any w2.heap.size _ _ _ (turnTail n t) t.long r (turnBack n t) _ (unhide HGB2)).mono ?_
  rintro e w3 ⟨ta, tcap, rfl, hrow, hb3⟩
  have hb23 := below_then hA2 hb3
  have hbw3 := below_then hbw2 hb23
  have hR3 := hR2.below hb23
  have HROW := hide (hrow.mono (show w.heap.size ≤ _ by have := (below_then hbw2 hA2).size; simpa using this))
  have HLT := hide hrow.lt
  clear hrow
  have r0 := hR3.2.1 0 _ rfl
  have r1 := hR3.2.1 1 _ rfl
  have r2 := hR3.2.1 2 _ rfl
  have r3 := hR3.2.1 3 _ rfl
  have r4 := hR3.2.1 4 _ rfl
  have rz := hR3.2.2
  have rl := hR3.1
  have rl2 := hR2.1
  go_wp2
  refine bodyPost_ret (v := .agg #[.int .i64 (turnTail n t).piece, .int .i64 (turnTail n t).at_, .int .i64 (turnTail n t).way, .int .i64 t.long, .slice ta (turnBack n t).length tcap]) (by simp [results, Tryz.results18, go_sem, r0, r1, r2, r3, r4]) rfl ⟨⟨turnOf n t, ta, tcap, Or.inl ⟨unhide HR, rfl⟩, rfl, ?_⟩, below_set5 hbw3 (by omega) _ _ _ _ _⟩
  refine (unhide HROW).block fun k hk => ?_
  have hk2 := (unhide HLT k hk).1
  have hk3 : w2.heap.size + 1 ≤ k := by simpa using hk2
  have hne : k ≠ w.heap.size + 1 + 1 := by omega
  rw [Below.heap_setCell _ _ _ k (by simpa using hne), Below.heap_setCell _ _ _ k (by simpa using hne), Below.heap_setCell _ _ _ k (by simpa using hne), Below.heap_setCell _ _ _ k (by simpa using hne), Below.heap_setCell _ _ _ k (by simpa using hne)]
 ·have hst5 := store_new w1 _ (unhide HZS) _ (bodyL_len (.slice none 0 0) (.slice none 0 0) (.slice none 0 0) ⟨0, 0, 0⟩ 0 0 []) (bodyL_one _ _ _ _ rfl rfl rfl)
  have hlB := bodyL_len (.slice none 0 0) (.slice none 0 0) (.slice none 0 0) ⟨0, 0, 0⟩ 0 0 []
  have HR := hide hR
  have r0 := hR1.2.1 0 _ rfl
  have r1 := hR1.2.1 1 _ rfl
  have r2 := hR1.2.1 2 _ rfl
  have r3 := hR1.2.1 3 _ rfl
  have r4 := hR1.2.1 4 _ rfl
  have rz := hR1.2.2
  have rl := hR1.1
  clear hR
  unfold zeroBody bodyV
  go_wp2
  refine bodyPost_ret (v := .agg #[.int .i64 0, .int .i64 0, .int .i64 0, .int .i64 0, .slice none 0 0]) (by simp [results, Tryz.results18, go_sem, r0, r1, r2, r3, r4, rl]) rfl ⟨⟨noTr, none, 0, Or.inr ⟨unhide HR, rfl⟩, rfl, Row.nil _ _ _ _ _⟩, ?_⟩
  exact (below_set5 hbw1 (by omega) _ _ _ _ _).alloc (below_set5 hbw1 (by omega) _ _ _ _ _).size _

end Go.Proofs.YtbdggfpfpjijoaaGreatDoor

