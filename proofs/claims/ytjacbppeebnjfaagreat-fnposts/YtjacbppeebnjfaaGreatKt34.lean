import Derived.Test.YtjacbppeebnjfaaGreatMKt34a
import Derived.Deep.CutRange
namespace Go.Proofs.YtjacbppeebnjfaaGreat
open Go.RowKit Go.Shelf
attribute [local go_sem] Oper.semAt_some

def RunJ (w : World) (n : Nt) (zs : List Int) (long F : Int) (m0 : Mv) (B base C : Nat) (k0 k1 k2 zv : Value) (k : Nat) (x : St) (i : Int) (W : World) : Prop :=
 Boxed W C (curL k0 k1 k2 zv x i 0) ∧ base ≤ W.heap.size ∧ ∃ m ov sx, RunAt w n zs long F m0 B base k0 k1 k2 m ov sx W ∧ sx.length = k
  ∧ ((k = 0 ∧ m = m0 ∧ x = ⟨m.s.piece, m.s.way⟩) ∨ (0 < k ∧ m.far < F ∧ room n m.s = 0 ∧ (k : Int) ≤ m.far + 1 ∧ ∃ (i' : Nat) (e : Ed), i = i' ∧ Ahead n zs m.s i' (e, 0) ∧ x = trn (twd e)))
def RunJ' (w : World) (n : Nt) (zs : List Int) (long F : Int) (m0 : Mv) (B base C : Nat) (k0 k1 k2 zv : Value) (k : Nat) (x : St) (i : Int) (W : World) : Prop :=
 Boxed W C (curL k0 k1 k2 zv x i 0) ∧ base ≤ W.heap.size ∧ ∃ m ov sx, RunAt w n zs long F m0 B base k0 k1 k2 m ov sx W ∧ sx.length = k + 1 ∧ m.far < F ∧ room n m.s = 0 ∧ (k : Int) ≤ m.far ∧ x = ⟨m.s.piece, m.s.way⟩
def RunO (w : World) (n : Nt) (zs : List Int) (long F : Int) (m0 : Mv) (B base : Nat) (k0 k1 k2 : Value) (c : Code) (W : World) : Prop :=
 c = .ret ∧ ∃ m ov sx code joint, RunEnd w n zs long F m0 B base k0 k1 k2 m ov sx code joint W

set_option maxRecDepth 100000 in
set_option maxHeartbeats 40000000 in
theorem run_any (B : Nat) (n : Nt) (ka ksh kst : Option Addr) (kca kcsh kcst : Nat) (s : Sp) (long F : Int) (xs : List St) (zq : Option Addr) (zs : List Int) (zc : Nat) (w : World)
  (h : OwnC w B 0 412 (bodyF (.slice ka n.pieces.length kca) (.slice ksh n.joints.length kcsh) (.slice kst n.pieces.length kcst) s long (spareOf n long s xs) xs)) (hkO : ∀ wb, OnB B w wb → TrkAt 0 wb (.agg #[.slice ka n.pieces.length kca, .slice ksh n.joints.length kcsh, .slice kst n.pieces.length kcst]) n) (hkB : ∀ b off, ka = some ⟨b, off, none⟩ → b ≠ B) (hG : NetGood n)
  (hzO : ∀ wb, OnB B w wb → IntsAt 0 wb zq zs) (hzl : zs.length = n.joints.length) (hM : MvOk n long F ⟨s, xs, 0, []⟩) (hl : 0 < long) (hF : F ≤ 10000) :
  Calls Tryz.prog 22 #[.pointer (some ⟨B, 0, none⟩), .slice zq zs.length zc, .int .i64 F] w (RunRet w n zs long F ⟨s, xs, 0, []⟩ B (.slice ka n.pieces.length kca) (.slice ksh n.joints.length kcsh) (.slice kst n.pieces.length kcst)) := by
 refine (callsIn_wide (n := 9)).1 ?_
 refine callsIn_of_wp_marks Tryz.func22 rfl trivial ?_ rfl
 simp only [Tryz.ntmps22, List.size_toArray, List.length_cons, List.length_nil, Nat.reduceAdd, Nat.reduceSub, Array.replicate_succ, Array.replicate_zero, List.push_toArray, List.append_toArray, List.nil_append, List.cons_append]
 have hwd : ∀ m, Fence.wide.depth.isSome = true → 1 ≤ m := fun m h => absurd h (by simp [Fence.wide])
 obtain ⟨i0, hi0, hz0, hz1, hz2⟩ := info_parts info_stretch
 have hBl := h.1
 have H := hide h
 have HZL := hide hzl
 have HM := hide hM
 have HF0 := hide hF
 clear h hzl hM
 gi_wp2_with fail
 refine ⟨trivial, (callsIn_wide.2 (bsits_any B n ka ksh kst kca kcsh kcst s long (spareOf n long s xs) xs zq zs zc _ ((unhide H).below ?_) ((hkO w (onB_refl _ _)).below ?_) hG (unhide HM).len ⟨(unhide HM).spot.1, (unhide HM).spot.2.1⟩ (unhide HM).steps ((hzO w (onB_refl _ _)).below ?_) (unhide HZL))).mono ?_⟩
 ·exact bw0
 ·exact bw0
 ·exact bw0
 rintro e w1 ⟨hR, hb1⟩
 have hX0 : Boxed w1 w.heap.size [.pointer (some ⟨B, 0, none⟩)] := (((((boxed_alloc _ _ _).alloc _).alloc _).alloc _).alloc _).below hb1
 have hX1 : Boxed w1 (w.heap.size + 1) [.int .i64 F] := ((((boxedN _ _ _ (by simp)).alloc _).alloc _).alloc _).below hb1
 have hX2 : Boxed w1 (w.heap.size + 1 + 1) [.slice none 0 0, .int .i64 0] := (((boxedN _ _ _ (by simp)).alloc _).alloc _).below hb1
 have hX3 : Boxed w1 (w.heap.size + 1 + 1 + 1) [.nilIface] := ((boxedN _ _ _ (by simp)).alloc _).below hb1
 have hX4 : Boxed w1 (w.heap.size + 1 + 1 + 1 + 1) [.slice none 0 0, .int .i64 0] := (boxedN _ _ _ (by simp)).below hb1
 have hbw1 : Below w.heap.size w w1 := below_then bw0 hb1
 have a2 := hX2.2.1 0 _ rfl
 have a2' := hX2.2.1 1 _ rfl
 have a2z := hX2.2.2
 have a2l := hX2.1
 have a3 := hX3.2.1 0 _ rfl
 have a3z := hX3.2.2
 have a3l := hX3.1
 have a4 := hX4.2.1 0 _ rfl
 have a4' := hX4.2.1 1 _ rfl
 have a4l := hX4.1
 clear hb1
 rcases hR with ⟨rfl, hR⟩ | ⟨rfl, hR⟩
 rotate_left
 ·have HR := hide hR
  clear hR
  have hx2 := (((hX2.setAt (i := 0) (by simp) (.slice none 0 0)).setAt (i := 1) (by simp) (.int .i64 0)).onlyS (only_setCell (S := fun k => k = w.heap.size + 1 + 1 + 1) _ (p := ⟨w.heap.size + 1 + 1 + 1, 0, none⟩) rfl (.iface 113 (.agg #[.int .i64 4, .int .i64 (-1)]))) (show ¬ w.heap.size + 1 + 1 = w.heap.size + 1 + 1 + 1 by omega))
  have hx3 := (hX3.onlyS ((only_setCell (S := fun k => k = w.heap.size + 1 + 1) w1 (p := ⟨w.heap.size + 1 + 1, 0, none⟩) rfl (.slice none 0 0)).trans (only_setCell (S := fun k => k = w.heap.size + 1 + 1) _ (p := ⟨w.heap.size + 1 + 1, 1, none⟩) rfl (.int .i64 0))) (show ¬ w.heap.size + 1 + 1 + 1 = w.heap.size + 1 + 1 by omega)).setAt (i := 0) (by simp) (.iface 113 (.agg #[.int .i64 4, .int .i64 (-1)]))
  have hbe : Below w.heap.size w (((w1.setCell ⟨w.heap.size + 1 + 1, 0, none⟩ (.slice none 0 0)).setCell ⟨w.heap.size + 1 + 1, 1, none⟩ (.int .i64 0)).setCell ⟨w.heap.size + 1 + 1 + 1, 0, none⟩ (.iface 113 (.agg #[.int .i64 4, .int .i64 (-1)]))) :=
   ((hbw1.setCell (p := ⟨w.heap.size + 1 + 1, 0, none⟩) (show w.heap.size ≤ w.heap.size + 1 + 1 by omega) _).setCell (p := ⟨w.heap.size + 1 + 1, 1, none⟩) (show w.heap.size ≤ w.heap.size + 1 + 1 by omega) _).setCell (p := ⟨w.heap.size + 1 + 1 + 1, 0, none⟩) (show w.heap.size ≤ w.heap.size + 1 + 1 + 1 by omega) _
  have HX2 := hide hx2
  have HX3 := hide hx3
  have HBE := hide hbe
  clear hx2 hx3 hbe
  gi_wp2_with fail
  refine ⟨.tuple #[.agg #[.slice none 0 0, .int .i64 0], errV 4 (-1)], ?_, ⟨s, xs, 0, []⟩, .slice none 0 0, [], 4, -1, rfl, Or.inr ⟨unhide HR, rfl, rfl, rfl⟩, gb_of ((unhide H).below (unhide HBE)) (by have h' : xs.length ≤ 200 := (unhide HM).len; show xs.length ≤ 201; omega), Row.nil _ _ _ _ _, ⟨rfl, ⟨0, .nil⟩, by simp, by simp [lenS]⟩, by simp, by simp, onB_below (unhide HBE)⟩
  rw [results_cell2 rfl]
  simp [asAddr, Result.andThen, load_running _ _ _ _ ((unhide HX2).2.1 0 _ rfl) ((unhide HX2).2.1 1 _ rfl), load_err _ _ _ ((unhide HX3).2.1 0 _ rfl), errV]
 ·have HR := hide hR
  clear hR a2 a2' a2z a2l a3 a3z a3l a4 a4' a4l
  have hBw : OwnC w1 B 0 412 (bodyF (.slice ka n.pieces.length kca) (.slice ksh n.joints.length kcsh) (.slice kst n.pieces.length kcst) s long (spareOf n long s xs) xs) := (unhide H).below hbw1
  have c0 : w1.cell? ⟨B, 0, none⟩ = some (.int .i64 s.piece) := by simpa [bodyF] using (hBw.2 0 (by omega)).1
  have c1 : w1.cell? ⟨B, 1, none⟩ = some (.int .i64 s.at_) := by simpa [bodyF] using (hBw.2 1 (by omega)).1
  have c2 : w1.cell? ⟨B, 2, none⟩ = some (.int .i64 s.way) := by simpa [bodyF] using (hBw.2 2 (by omega)).1
  have c3 : w1.cell? ⟨B, 3, none⟩ = some (.slice ka n.pieces.length kca) := by simpa [bodyF] using (hBw.2 3 (by omega)).1
  have c4 : w1.cell? ⟨B, 4, none⟩ = some (.slice ksh n.joints.length kcsh) := by simpa [bodyF] using (hBw.2 4 (by omega)).1
  have c5 : w1.cell? ⟨B, 5, none⟩ = some (.slice kst n.pieces.length kcst) := by simpa [bodyF] using (hBw.2 5 (by omega)).1
  have b0 := hX0.2.1 0 _ rfl
  have b0l := hX0.1
  have hB1 : B < w1.heap.size := Nat.lt_of_lt_of_le hBl hbw1.size
  have nB1 : ¬ B = w1.heap.size := by omega
  have nB2 : ¬ w1.heap.size = B := by omega
  have nX1 : ¬ w.heap.size = w1.heap.size := by omega
  have nX2 : ¬ w1.heap.size = w.heap.size := by omega
  have hR1 : ∀ bs, RunAt w n zs long F ⟨s, xs, 0, []⟩ B bs (.slice ka n.pieces.length kca) (.slice ksh n.joints.length kcsh) (.slice kst n.pieces.length kcst) ⟨s, xs, 0, []⟩ (.slice none 0 0) [] w1 := fun bs =>
   ⟨.start, gb_of hBw (by have h' : xs.length ≤ 200 := (unhide HM).len; show xs.length ≤ 201; omega), hX0, hX1, hX2, hX3, hX4, Row.nil _ _ _ _ _, ⟨rfl, ⟨0, .nil⟩, by simp, by simp [lenS]⟩, by simp, onB_below hbw1⟩
  have h5 : w.heap.size + 5 ≤ w1.heap.size := by have := hX4.1; omega
  have HR1 := hide hR1
  clear hBw hR1
  gi_wp2_with fail
  refine wpIn_wide.2 ?_
  go_cut [9] from 20 to 30 (fun y wx => ∃ C, y = .pointer (some ⟨C, 0, none⟩) ∧ Hid (Boxed wx C (curL (.slice ka n.pieces.length kca) (.slice ksh n.joints.length kcsh) (.slice kst n.pieces.length kcst) (.slice zq zs.length zc) ⟨s.piece, s.way⟩ 0 0)) ∧ Hid (Below w1.heap.size w1 wx) ∧ w1.heap.size ≤ C)
  case first =>
   go_region_held3 (fun w' => w'.cell? ⟨w.heap.size, 0, none⟩ = some (.pointer (some ⟨B, 0, none⟩)) ∧ w'.cell? ⟨B, 0, none⟩ = some (.int .i64 s.piece) ∧ w'.cell? ⟨B, 1, none⟩ = some (.int .i64 s.at_) ∧ w'.cell? ⟨B, 2, none⟩ = some (.int .i64 s.way) ∧ w'.cell? ⟨B, 3, none⟩ = some (.slice ka n.pieces.length kca) ∧ w'.cell? ⟨B, 4, none⟩ = some (.slice ksh n.joints.length kcsh) ∧ w'.cell? ⟨B, 5, none⟩ = some (.slice kst n.pieces.length kcst))
    (((try dsimp only); (repeat' apply And.intro)) <;> (go_keep; done))
    (first
     | (go_at_call 46; refine (step_any s _).mono ?_; rintro e w2 ⟨rfl, hb2⟩; obtain ⟨hc2, hf2⟩ := bcell hb2; have sz2 := hb2.size; (try simp at sz2); (try have lt2 := Nat.lt_of_succ_le sz2); have ne0 : ¬ w2.heap.size = B := (by omega); have ne1 : ¬ B = w2.heap.size := (by omega); have ne2 : ¬ w2.heap.size = w.heap.size := (by omega); have ne3 : ¬ w.heap.size = w2.heap.size := (by omega); have q0 := hc2 (B) (0) (by first | (simp; done) | (simp; omega) | omega); have q1 := hc2 (B) (1) (by first | (simp; done) | (simp; omega) | omega); have q2 := hc2 (B) (2) (by first | (simp; done) | (simp; omega) | omega); have q3 := hc2 (B) (3) (by first | (simp; done) | (simp; omega) | omega); have q4 := hc2 (B) (4) (by first | (simp; done) | (simp; omega) | omega); have q5 := hc2 (B) (5) (by first | (simp; done) | (simp; omega) | omega); have q6 := hc2 (w.heap.size) (0) (by first | (simp; done) | (simp; omega) | omega)))
   ·have hCc : Boxed (w2.alloc (Obj.cells #[Value.slice ka n.pieces.length kca, Value.slice ksh n.joints.length kcsh, Value.slice kst n.pieces.length kcst, Value.slice zq zs.length zc, Value.int IntKind.i64 s.piece, Value.int IntKind.i64 s.way, Value.int IntKind.i64 0, Value.int IntKind.i64 0] 116)) w2.heap.size (curL (.slice ka n.pieces.length kca) (.slice ksh n.joints.length kcsh) (.slice kst n.pieces.length kcst) (.slice zq zs.length zc) ⟨s.piece, s.way⟩ 0 0) := boxed_alloc _ _ _
    have hbc : Below w1.heap.size w1 (w2.alloc (Obj.cells #[Value.slice ka n.pieces.length kca, Value.slice ksh n.joints.length kcsh, Value.slice kst n.pieces.length kcst, Value.slice zq zs.length zc, Value.int IntKind.i64 s.piece, Value.int IntKind.i64 s.way, Value.int IntKind.i64 0, Value.int IntKind.i64 0] 116)) := below_then (below_then bw0 hb2) bw0
    have hC1 : w1.heap.size ≤ w2.heap.size := hb2.size
    clear q0 q1 q2 q3 q4 q5 q6 hc2 hf2 hb2 sz2 ne0 ne1 ne2 ne3
    go_wp2_with fail
    go_meet
    exact ⟨_, rfl, hCc, hbc, hC1⟩
   ·have hb12 : Below w1.heap.size w1 w2 := below_then bw0 hb2
    have hZc : Boxed w2 w1.heap.size [.slice none 0 0, .slice none 0 0, .slice none 0 0, .slice none 0 0, .int .i64 0, .int .i64 0, .int .i64 0, .int .i64 0] := ((boxed_alloc w1 _ _).below bw0).below hb2
    have hCc : Boxed ((((((((w2.setCell ⟨w1.heap.size, 0, none⟩ (.slice ka n.pieces.length kca)).setCell ⟨w1.heap.size, 1, none⟩ (.slice ksh n.joints.length kcsh)).setCell ⟨w1.heap.size, 2, none⟩ (.slice kst n.pieces.length kcst)).setCell ⟨w1.heap.size, 3, none⟩ (.slice zq zs.length zc)).setCell ⟨w1.heap.size, 4, none⟩ (.int .i64 s.piece)).setCell ⟨w1.heap.size, 5, none⟩ (.int .i64 s.way)).setCell ⟨w1.heap.size, 6, none⟩ (.int .i64 0)).setCell ⟨w1.heap.size, 7, none⟩ (.int .i64 0)) w1.heap.size (curL (.slice ka n.pieces.length kca) (.slice ksh n.joints.length kcsh) (.slice kst n.pieces.length kcst) (.slice zq zs.length zc) ⟨s.piece, s.way⟩ 0 0) := ((((((((hZc.setAt (i := 0) (by simp) (.slice ka n.pieces.length kca)).setAt (i := 1) (by simp) (.slice ksh n.joints.length kcsh)).setAt (i := 2) (by simp) (.slice kst n.pieces.length kcst)).setAt (i := 3) (by simp) (.slice zq zs.length zc)).setAt (i := 4) (by simp) (.int .i64 s.piece)).setAt (i := 5) (by simp) (.int .i64 s.way)).setAt (i := 6) (by simp) (.int .i64 0)).setAt (i := 7) (by simp) (.int .i64 0))
    have hbc : Below w1.heap.size w1 ((((((((w2.setCell ⟨w1.heap.size, 0, none⟩ (.slice ka n.pieces.length kca)).setCell ⟨w1.heap.size, 1, none⟩ (.slice ksh n.joints.length kcsh)).setCell ⟨w1.heap.size, 2, none⟩ (.slice kst n.pieces.length kcst)).setCell ⟨w1.heap.size, 3, none⟩ (.slice zq zs.length zc)).setCell ⟨w1.heap.size, 4, none⟩ (.int .i64 s.piece)).setCell ⟨w1.heap.size, 5, none⟩ (.int .i64 s.way)).setCell ⟨w1.heap.size, 6, none⟩ (.int .i64 0)).setCell ⟨w1.heap.size, 7, none⟩ (.int .i64 0)) := ((((((((hb12.setCell (p := ⟨w1.heap.size, 0, none⟩) (Nat.le_refl _) (.slice ka n.pieces.length kca)).setCell (p := ⟨w1.heap.size, 1, none⟩) (Nat.le_refl _) (.slice ksh n.joints.length kcsh)).setCell (p := ⟨w1.heap.size, 2, none⟩) (Nat.le_refl _) (.slice kst n.pieces.length kcst)).setCell (p := ⟨w1.heap.size, 3, none⟩) (Nat.le_refl _) (.slice zq zs.length zc)).setCell (p := ⟨w1.heap.size, 4, none⟩) (Nat.le_refl _) (.int .i64 s.piece)).setCell (p := ⟨w1.heap.size, 5, none⟩) (Nat.le_refl _) (.int .i64 s.way)).setCell (p := ⟨w1.heap.size, 6, none⟩) (Nat.le_refl _) (.int .i64 0)).setCell (p := ⟨w1.heap.size, 7, none⟩) (Nat.le_refl _) (.int .i64 0))
    have hC1 : w1.heap.size ≤ w1.heap.size := Nat.le_refl _
    clear q0 q1 q2 q3 q4 q5 q6 hc2 hf2 hb2 sz2 ne0 ne1 ne2 ne3 hb12 hZc
    go_wp2_with fail
    go_meet
    exact ⟨_, rfl, hCc, hbc, hC1⟩
  case rest =>
   obtain ⟨C, rfl, HCC0, HBC, hC1⟩ := hcut
   have hCc := unhide HCC0
   have hbc := unhide HBC
   have HRc : ∀ bs, Hid (RunAt w n zs long F ⟨s, xs, 0, []⟩ B bs (.slice ka n.pieces.length kca) (.slice ksh n.joints.length kcsh) (.slice kst n.pieces.length kcst) ⟨s, xs, 0, []⟩ (.slice none 0 0) [] wc) := fun bs => hide ((unhide HR1 bs).below hbc hBl)
   have HCC := hide hCc
   have hCw : C < wc.heap.size := hCc.1
   have h5c : w.heap.size + 5 ≤ C := by omega
   clear c0 c1 c2 c3 c4 c5 b0 b0l nB1 nB2 nX1 nX2
   gi_wp2_with fail
   obtain ⟨D, hD⟩ : ∃ D, wc.heap.size = D := ⟨_, rfl⟩
   obtain ⟨l, hl'⟩ : ∃ l, D + 1 = l := ⟨_, rfl⟩
   obtain ⟨base, hbase⟩ : ∃ base, l + 1 = base := ⟨_, rfl⟩
   have hiO : ∀ W i i' k x, RunJ w n zs long F ⟨s, xs, 0, []⟩ B base C (.slice ka n.pieces.length kca) (.slice ksh n.joints.length kcsh) (.slice kst n.pieces.length kcst) (.slice zq zs.length zc) k x i W → Boxed W C (curL (.slice ka n.pieces.length kca) (.slice ksh n.joints.length kcsh) (.slice kst n.pieces.length kcst) (.slice zq zs.length zc) x i' 0) → i = i' := by
    intro W i i' k x h1 h2
    have e1 := h1.1.2.1 6 _ rfl
    have e2 := h2.2.1 6 _ rfl
    rw [e1] at e2
    simpa using e2
   refine rangeFunc_rel (F := Fence.wide) (n := 9) rfl (by decide) (gf := 47) (fs := #[.pointer (some ⟨C, 0, none⟩)]) (lb := #[]) rfl trivial (enters_of Tryz.func47 (by kernel_rfl) rfl)
    (fun args W => ∃ (k : Nat) (x : St) (i : Int), args = #[.int .i64 k, .agg #[.int .i64 x.piece, .int .i64 x.way]] ∧ RunJ w n zs long F ⟨s, xs, 0, []⟩ B base C (.slice ka n.pieces.length kca) (.slice ksh n.joints.length kcsh) (.slice kst n.pieces.length kcst) (.slice zq zs.length zc) k x i W)
    (fun args W0 W' => ∃ (k : Nat) (x : St) (i : Int), args = #[.int .i64 k, .agg #[.int .i64 x.piece, .int .i64 x.way]] ∧ RunJ w n zs long F ⟨s, xs, 0, []⟩ B base C (.slice ka n.pieces.length kca) (.slice ksh n.joints.length kcsh) (.slice kst n.pieces.length kcst) (.slice zq zs.length zc) k x i W0 ∧ RunJ' w n zs long F ⟨s, xs, 0, []⟩ B base C (.slice ka n.pieces.length kca) (.slice ksh n.joints.length kcsh) (.slice kst n.pieces.length kcst) (.slice zq zs.length zc) k x i W')
    (fun c _ _ W' => RunO w n zs long F ⟨s, xs, 0, []⟩ B base (.slice ka n.pieces.length kca) (.slice ksh n.joints.length kcsh) (.slice kst n.pieces.length kcst) c W')
    (fun W' => AhEnd n zs C (.slice ka n.pieces.length kca) (.slice ksh n.joints.length kcsh) (.slice kst n.pieces.length kcst) (.slice zq zs.length zc) (RunJ' w n zs long F ⟨s, xs, 0, []⟩ B base C (.slice ka n.pieces.length kca) (.slice ksh n.joints.length kcsh) (.slice kst n.pieces.length kcst) (.slice zq zs.length zc)) W')
    (fun c W' => RunO w n zs long F ⟨s, xs, 0, []⟩ B base (.slice ka n.pieces.length kca) (.slice ksh n.joints.length kcsh) (.slice kst n.pieces.length kcst) c W') ?hps ?hround ?hiter ?hdone ?hstop
   case hps => rintro args W ⟨k, x, i, rfl, _⟩; rfl
   case hround =>
    rintro r args W hrs hL ⟨k, x, i, rfl, hJ⟩
    have HJ := hide hJ
    obtain ⟨hCb, hWb, mp, ov, sx, hRun, hsx, hcase⟩ := hJ
    rw [hD, hl'] at hL ⊢
    dsimp only
    have HCASE := hide hcase
    have HRUN := hide hRun
    have HCB := hide hCb
    have HKX := hide hsx
    clear hcase hRun hCb hsx
    gi_wp2_with fail
    refine ⟨hL.alloc _, ?_⟩
    have hlp := (hL.alloc (Obj.cells #[.int .i64 x.piece, .int .i64 x.way] 67)).1
    have hOp := only_putObj (S := fun k => k = l) hlp rfl (.loop { r with state := .busy })
    have hOw : Only (fun k => k = l) W ((W.alloc (Obj.cells #[.int .i64 x.piece, .int .i64 x.way] 67)).putObj l (.loop { r with state := .busy })) := (only_of_below bw0).trans hOp
    have hlb : w.heap.size + 5 ≤ l ∧ l < base := by omega
    have hRb : RunAt w n zs long F ⟨s, xs, 0, []⟩ B base (.slice ka n.pieces.length kca) (.slice ksh n.joints.length kcsh) (.slice kst n.pieces.length kcst) mp ov sx ((W.alloc (Obj.cells #[.int .i64 x.piece, .int .i64 x.way] 67)).putObj l (.loop { r with state := .busy })) := (unhide HRUN).keep hOw hBl (fun k hk => by rw [hk]; exact hlb)
    have hCb' : Boxed ((W.alloc (Obj.cells #[.int .i64 x.piece, .int .i64 x.way] 67)).putObj l (.loop { r with state := .busy })) C (curL (.slice ka n.pieces.length kca) (.slice ksh n.joints.length kcsh) (.slice kst n.pieces.length kcst) (.slice zq zs.length zc) x i 0) := (unhide HCB).onlyS hOw (show ¬ C = l by omega)
    have hZx := (boxed_alloc W #[.int .i64 x.piece, .int .i64 x.way] 67).only hOp (show W.heap.size ≠ l by omega)
    have hLb : LoopAt l D { r with state := .busy } ((W.alloc (Obj.cells #[.int .i64 x.piece, .int .i64 x.way] 67)).putObj l (.loop { r with state := .busy })) := ⟨World.putObj_heap_same (Array.getElem?_eq_some_iff.1 hlp).1, (World.putObj_heap_other (by omega)).trans (hL.alloc _).2⟩
    have hWbb : base ≤ ((W.alloc (Obj.cells #[.int .i64 x.piece, .int .i64 x.way] 67)).putObj l (.loop { r with state := .busy })).heap.size := Nat.le_trans hWb hOw.size
    generalize (W.alloc (Obj.cells #[.int .i64 x.piece, .int .i64 x.way] 67)).putObj l (.loop { r with state := .busy }) = Wb at *
    have hMm : MvOk n long F mp := (hRb.goes).ok hG hl (unhide HM)
    rcases unhide HCASE with ⟨rfl, hm0, hxe⟩ | ⟨hkpos, hfF, hrm, hkf, i', e, rfl, hah, hxe⟩
    ·obtain ⟨m, hmm⟩ : ∃ m : Mv, m = mp := ⟨_, rfl⟩
     subst hmm
     have hRq := hRb
     have hMq := hMm
     have hLq := hLb
     have hWq := hWbb
     have HCQ := hide hCb'
     have HFEW : Hid (sx.length ≤ 10000) := by have := unhide HKX; unfold Hid; omega
     obtain ⟨Wq, hWqe⟩ : ∃ Wq, Wb = Wq := ⟨_, rfl⟩
     rw [hWqe] at hRq hLq hWq HCQ ⊢
     have HXE := hide hxe
     clear hRb hMm hLb hWbb hCb' hxe hm0 HRUN HCB HCASE
     obtain ⟨m2, hg2, hs2, hxs2, hf2, hov2, hend2, hpr2⟩ := roll_next hG hMq hRq.goes
     obtain ⟨hsm1, hsm2⟩ := roll_same hG hMq
     obtain ⟨hle1, hle2, hle3, _⟩ := roll_le hG hMq.spot (show (0 : Int) ≤ F - m.far by have := hMq.farF; omega)
     have hbe := spot_behind hG hMq.spot
     have hlen := hG.len hMq.spot.1.1 hMq.spot.1.2
     have hspq := spare_le hG hl hMq
     have hfar0 := hMq.far0
     have hfarF := hMq.farF
     have o0 := hRq.x0.2.1 0 _ rfl
     have o1 := hRq.x1.2.1 0 _ rfl
     have o4 := hRq.x4.2.1 0 _ rfl
     have o5 := hRq.x4.2.1 1 _ rfl
     have HRQ := hide hRq
     have HMQ := hide hMq
     have HG2 := hide hg2
     have HS2 := hide hs2
     have HXS2 := hide hxs2
     have HF2 := hide hf2
     have HOV2 := hide hov2
     have HEND2 := hide hend2
     have HPR2 := hide hpr2
     have HSM1 := hide hsm1
     have HSM2 := hide hsm2
     have HLQ := hide hLq
     clear hRq hMq hg2 hs2 hxs2 hf2 hov2 hend2 hpr2 hsm1 hsm2 hLq
     gi_wp2_with fail
     refine ⟨trivial, ?_⟩
     gi_wp2_with fail
     refine ⟨trivial, (CallsIn.inRound _ (callsIn_wide.2 (roll_any B n ka ksh kst kca kcsh kcst m.s long (spareOf n long m.s m.xs) (F - m.far) m.xs Wq (unhide HRQ).gb (fun wb hob => hkO wb ((unhide HRQ).only.trans hob)) hkB hG (unhide HMQ).spot (unhide HMQ).steps hspq (by omega)))).mono ?_⟩
     rintro e W1 ⟨rfl, hgb1, ho1⟩
     rw [unhide HSM1, unhide HSM2] at hgb1
     obtain ⟨lo, hlo⟩ : ∃ lo, behind n m.s = lo := ⟨_, rfl⟩
     obtain ⟨hi, hhi⟩ : ∃ hi, rollTo n m.s (F - m.far) = hi := ⟨_, rfl⟩
     rw [hlo, hhi] at hle1 hle3 HF2 HOV2 ⊢
     rw [hlo] at hbe
     rw [hhi] at hle2
     have hnl : ∀ k, k < base → k ≠ B → ¬ (fun k => k = B) k := fun k _ h => h
     have hy0 := (unhide HRQ).x0.onlyS ho1.ob (show ¬ w.heap.size = B by omega)
     have hy1 := (unhide HRQ).x1.onlyS ho1.ob (show ¬ w.heap.size + 1 = B by omega)
     have hy2 := (unhide HRQ).x2.onlyS ho1.ob (show ¬ w.heap.size + 1 + 1 = B by omega)
     have hy3 := (unhide HRQ).x3.onlyS ho1.ob (show ¬ w.heap.size + 1 + 1 + 1 = B by omega)
     have hy4 := (unhide HRQ).x4.onlyS ho1.ob (show ¬ w.heap.size + 1 + 1 + 1 + 1 = B by omega)
     have hrow1 := (unhide HRQ).row.only ho1.ob (fun k hk (he : k = B) => by have h1 := ((unhide HRQ).row.lt k hk).1; omega)
     have honly1 : OnB B w W1 := (unhide HRQ).only.trans ho1
     have hcq1 : Boxed W1 C (curL (.slice ka n.pieces.length kca) (.slice ksh n.joints.length kcsh) (.slice kst n.pieces.length kcst) (.slice zq zs.length zc) x i 0) := (unhide HCQ).onlyS ho1.ob (show ¬ C = B by omega)
     have hL1 := (unhide HLQ).only ho1.ob (show ¬ l = B by omega) (show ¬ D = B by omega)
     have hsz1 : base ≤ W1.heap.size := Nat.le_trans hWq ho1.size
     have e4 := hy4.2.1 0 _ rfl
     have e5 := hy4.2.1 1 _ rfl
     have e4z := hy4.2.2
     have e4l := hy4.1
     have HROW1 := hide hrow1
     have HY0 := hide hy0
     have HY1 := hide hy1
     have HY2 := hide hy2
     have HY3 := hide hy3
     have HY4 := hide hy4
     have HON1 := hide honly1
     have HCQ1 := hide hcq1
     have HL1 := hide hL1
     have HGB1 := hide hgb1
     clear hrow1 hy0 hy1 hy2 hy3 hy4 honly1 hcq1 hL1 hgb1 o0 o1 o4 o5
     gi_wp2_with (gi_at_builtin; refine wpListIn_append_own _ rfl (.tmp 54) (.tmp 56) 77 rfl base 81 i0 (.agg #[.int .i64 0, .int .i64 0, .int .i64 0, .int .i64 0]) 4 32 Tryz.underlying77 hi0 hz0 hz1 hz2 rfl (by decide) _ _ _ rfl ((unhide HROW1).below bw0) _ 1 1 (sxF ⟨⟨m.s.piece, m.s.way⟩, lo, hi⟩) rfl rfl ?c1a ?c2a ?c3a ?c4a ?c5a ?_)
     case c1a =>
      intro j u hj
      match j, hj with
      | 0, hj => simp [sxF] at hj; subst hj; simp only [Addr.add]; exact (boxedN _ _ _ (by simp)).2.1 0 _ rfl
      | 1, hj => simp [sxF] at hj; subst hj; simp only [Addr.add]; exact (boxedN _ _ _ (by simp)).2.1 1 _ rfl
      | 2, hj => simp [sxF] at hj; subst hj; simp only [Addr.add]; exact (boxedN _ _ _ (by simp)).2.1 2 _ rfl
      | 3, hj => simp [sxF] at hj; subst hj; simp only [Addr.add]; exact (boxedN _ _ _ (by simp)).2.1 3 _ rfl
     case c2a => intro u hu; simp [sxF] at hu; rcases hu with rfl | rfl | rfl | rfl <;> rfl
     case c3a => have := unhide HFEW; unfold maxLen; omega
     case c4a => have := unhide HFEW; omega
     case c5a => simp; omega
     intro v' w3 hown' hgrow _
     have hrow3 : SxRow w3 base v' (sx ++ [⟨⟨m.s.piece, m.s.way⟩, lo, hi⟩]) := Row.snoc (f := sxF) hown'
     have hrl := (unhide HROW1).lt
     have hb3 : Below base W1 w3 := Below.grown bw0 hgrow (by simp; omega) (fun j hj => (hrl j hj).1)
     have hneN : some W1.heap.size ≠ ov.ownBlock := fun hc => by have := (hrl _ hc.symm).2; omega
     have p2 : w3.cell? ⟨W1.heap.size, 2, none⟩ = some (.int .i64 lo) := (hgrow.cell_far ⟨W1.heap.size, 2, none⟩ (by simp; omega) hneN).trans (((boxed_alloc W1 _ _).alloc _).2.1 2 _ rfl)
     have p3 : w3.cell? ⟨W1.heap.size, 3, none⟩ = some (.int .i64 hi) := (hgrow.cell_far ⟨W1.heap.size, 3, none⟩ (by simp; omega) hneN).trans (((boxed_alloc W1 _ _).alloc _).2.1 3 _ rfl)
     have hoks : ∀ y ∈ sx ++ [(⟨⟨m.s.piece, m.s.way⟩, lo, hi⟩ : Sx)], SxOk n y := by
      intro y hy
      rcases List.mem_append.1 hy with hy | hy
      ·exact (unhide HRQ).oks y hy
      ·simp at hy
       subst hy
       exact ⟨⟨(unhide HMQ).spot.1, (unhide HMQ).spot.2.1⟩, ⟨show (0 : Int) ≤ lo by omega, show lo ≤ 10000000 by omega⟩, ⟨show (0 : Int) ≤ hi by omega, show hi ≤ 10000000 by omega⟩⟩
     have hov : OvS n zs long ⟨s, xs, 0, []⟩ m2 (sx ++ [(⟨⟨m.s.piece, m.s.way⟩, lo, hi⟩ : Sx)]) := (unhide HRQ).over.snoc (unhide HOV2)
     have hR4 := run_rolled (n := n) (zs := zs) (long := long) (F := F) (m0 := ⟨s, xs, 0, []⟩) (m2 := m2) (x := ⟨⟨m.s.piece, m.s.way⟩, lo, hi⟩) hBl (by omega) (unhide HG2) (by rw [unhide HS2, unhide HXS2]; exact unhide HGB1) (unhide HY0) (unhide HY1) (unhide HY2) (unhide HY3) (unhide HY4) hrow3 hb3 hov hoks (unhide HON1)
     rw [unhide HF2] at hR4
     have hcur4 := ((unhide HCQ1).belowU hb3 (by omega)).onlyS ((only_setCell (S := fun k => k = w.heap.size + 1 + 1 + 1 + 1) w3 (p := ⟨w.heap.size + 1 + 1 + 1 + 1, 0, none⟩) rfl v').trans (only_setCell (S := fun k => k = w.heap.size + 1 + 1 + 1 + 1) _ (p := ⟨w.heap.size + 1 + 1 + 1 + 1, 1, none⟩) rfl (.int .i64 (m.far + (hi - lo))))) (show ¬ C = w.heap.size + 1 + 1 + 1 + 1 by omega)
     have hL4 := ((unhide HL1).belowU hb3 (by omega) (by omega)).only ((only_setCell (S := fun k => k = w.heap.size + 1 + 1 + 1 + 1) w3 (p := ⟨w.heap.size + 1 + 1 + 1 + 1, 0, none⟩) rfl v').trans (only_setCell (S := fun k => k = w.heap.size + 1 + 1 + 1 + 1) _ (p := ⟨w.heap.size + 1 + 1 + 1 + 1, 1, none⟩) rfl (.int .i64 (m.far + (hi - lo))))) (show ¬ l = w.heap.size + 1 + 1 + 1 + 1 by omega) (show ¬ D = w.heap.size + 1 + 1 + 1 + 1 by omega)
     have hsz4 : base ≤ ((w3.setCell ⟨w.heap.size + 1 + 1 + 1 + 1, 0, none⟩ v').setCell ⟨w.heap.size + 1 + 1 + 1 + 1, 1, none⟩ (.int .i64 (m.far + (hi - lo)))).heap.size := by have := hb3.size; simp only [setCell_size]; omega
     have g1 := ((unhide HY1).belowU hb3 (by omega)).2.1 0 _ rfl
     have g2 := ((unhide HY2).belowU hb3 (by omega)).2.1 0 _ rfl
     have g2' := ((unhide HY2).belowU hb3 (by omega)).2.1 1 _ rfl
     have g2z := ((unhide HY2).belowU hb3 (by omega)).2.2
     have g3 := ((unhide HY3).belowU hb3 (by omega)).2.1 0 _ rfl
     have g3z := ((unhide HY3).belowU hb3 (by omega)).2.2
     have g4 := ((unhide HY4).belowU hb3 (by omega)).2.1 0 _ rfl
     have g4' := ((unhide HY4).belowU hb3 (by omega)).2.1 1 _ rfl
     have g4z := ((unhide HY4).belowU hb3 (by omega)).2.2
     have gl4 := ((unhide HY4).belowU hb3 (by omega)).1
     have gN1 : W1.heap.size < w3.heap.size := by have := hgrow.size; simp at this; omega
     have gN2 : ¬ W1.heap.size = w.heap.size + 1 + 1 + 1 + 1 := by omega
     have gN3 : ¬ w.heap.size + 1 + 1 + 1 + 1 = W1.heap.size := by omega
     obtain ⟨va, vcap, hv', _, _⟩ := hrow3.shape sxF_len
     rw [List.length_append, List.length_singleton] at hv'
     subst hv'
     have HR4 := hide hR4
     have HC4 := hide hcur4
     have HL4 := hide hL4
     have hfr : -100000000 ≤ m.far ∧ m.far ≤ 100000000 := ⟨by omega, by omega⟩
     have hloh : 0 ≤ lo ∧ hi ≤ 10000000 ∧ lo ≤ hi := ⟨by omega, by omega, by omega⟩
     clear hR4 hcur4 hL4 hown' hrow3 hgrow e4 e5 e4z e4l hneN hrl
     by_cases hq : m.far + (hi - lo) = F
     ·have hqb : (m.far + (hi - lo) == F) = true := by simpa using hq
      have hfin := (unhide HR4).finish (code := 0) (joint := -1) (Or.inl ⟨(unhide HF2).trans hq, rfl, rfl⟩) hBl (by omega) (by have := unhide HFEW; simp; omega) (ev := .nilIface) rfl
      rw [unhide HF2] at hfin
      have HFIN := hide hfin
      clear hq hfin
      gi_wp2_with fail
      have hL5 := (unhide HL4).only (((only_setCell (S := fun k => k = w.heap.size + 1 + 1 ∨ k = w.heap.size + 1 + 1 + 1) _ (p := ⟨w.heap.size + 1 + 1, 0, none⟩) (Or.inl rfl) (.slice va (sx.length + 1) vcap)).trans (only_setCell (S := fun k => k = w.heap.size + 1 + 1 ∨ k = w.heap.size + 1 + 1 + 1) _ (p := ⟨w.heap.size + 1 + 1, 1, none⟩) (Or.inl rfl) (.int .i64 (m.far + (hi - lo))))).trans (only_setCell (S := fun k => k = w.heap.size + 1 + 1 ∨ k = w.heap.size + 1 + 1 + 1) _ (p := ⟨w.heap.size + 1 + 1 + 1, 0, none⟩) (Or.inr rfl) .nilIface)) (by omega) (by omega)
      exact ⟨hL5, fun o => ⟨rfl, m2, _, _, 0, -1, (unhide HFIN).keep (only_putObj (S := fun k => k = l) hL5.1 rfl o) hBl (fun k hk => by rw [hk]; exact hlb)⟩⟩
     ·have hqb : (m.far + (hi - lo) == F) = false := by simpa using hq
      have HQ := hide hq
      clear hq
      gi_wp2_with fail
      have hop := only_putObj (S := fun k => k = l) (unhide HL4).1 rfl
      have hM2 := (unhide HG2).ok hG hl (unhide HM)
      have hne2 : m2.far ≠ F := by rw [unhide HF2]; exact unhide HQ
      exact ⟨unhide HL4, fun o => ⟨0, x, i, rfl, unhide HJ, (unhide HC4).onlyS (hop o) (show ¬ C = l by omega), Nat.le_trans hsz4 (hop o).size, m2, _, _, (unhide HR4).keep (hop o) hBl (fun k hk => by rw [hk]; exact hlb), by rw [List.length_append, unhide HKX]; rfl, by have := hM2.farF; omega, unhide HEND2 hne2, by have := hM2.far0; omega, by rw [unhide HS2]; exact unhide HXE⟩⟩
    ·have hkp : (0 : Int) < (k : Int) := by omega
     have o0 := hRb.x0.2.1 0 _ rfl
     have x0 := hZx.2.1 0 _ rfl
     have x1 := hZx.2.1 1 _ rfl
     have HRB := hide hRb
     have HMM := hide hMm
     have HLB := hide hLb
     have HCB' := hide hCb'
     have HAH := hide hah
     have HXE0 := hide hxe
     have HFF := hide hfF
     have HRM := hide hrm
     have HKF := hide hkf
     have hfew : (sx.length : Int) ≤ 10000 := by have h1 := unhide HKX; have h2 : mp.far < F := hfF; omega
     have HFEW : Hid (sx.length ≤ 10000) := by unfold Hid; omega
     clear hRb hMm hLb hCb' hah hxe hfF hrm hkf HRUN HCB HCASE hfew
     gi_wp2_with fail
     by_cases hfull : mp.xs.length = 200
     ·refine ⟨trivial, (CallsIn.inRound _ (callsIn_wide.2 (enter_full B (.slice ka n.pieces.length kca) (.slice ksh n.joints.length kcsh) (.slice kst n.pieces.length kcst) mp.s long (spareOf n long mp.s mp.xs) mp.xs x Wb (unhide HRB).gb hfull))).mono ?_⟩
      rintro e' W1 ⟨rfl, hb1⟩
      have hR1 := (unhide HRB).below hb1 hBl
      have hc1 := (unhide HCB').below hb1
      have hL1 := (unhide HLB).below hb1
      have a2 := hR1.x2.2.1 0 _ rfl
      have a2' := hR1.x2.2.1 1 _ rfl
      have a2z := hR1.x2.2.2
      have a2l := hR1.x2.1
      have a3 := hR1.x3.2.1 0 _ rfl
      have a3z := hR1.x3.2.2
      have a3l := hR1.x3.1
      have a4 := hR1.x4.2.1 0 _ rfl
      have a4' := hR1.x4.2.1 1 _ rfl
      have a4l := hR1.x4.1
      have d6 := hc1.2.1 6 _ rfl
      have d6l := hc1.1
      obtain ⟨va, vcap, hv', _, _⟩ := hR1.row.shape sxF_len
      subst hv'
      have hfin := hR1.finish (code := 6) (joint := i') (Or.inr ⟨unhide HFF, unhide HRM, i', (e, 0), unhide HAH, Or.inr ⟨rfl, hfull, rfl, rfl⟩⟩) hBl (by omega) (by have := unhide HFEW; omega) (ev := .iface 113 (.agg #[.int .i64 6, .int .i64 i'])) rfl
      have hdr : ∀ W : World, Below W.heap.size W W.drew := fun W => Below.drew (Below.refl _ _)
      have HFIN := hide (hfin.keep (T := fun _ => False) (only_of_below (hdr _)) hBl (fun _ h => h.elim))
      have HL1 := hide ((hL1.only (((only_setCell (S := fun k => k = w.heap.size + 1 + 1 ∨ k = w.heap.size + 1 + 1 + 1) W1 (p := ⟨w.heap.size + 1 + 1, 0, none⟩) (Or.inl rfl) (.slice va sx.length vcap)).trans (only_setCell (S := fun k => k = w.heap.size + 1 + 1 ∨ k = w.heap.size + 1 + 1 + 1) _ (p := ⟨w.heap.size + 1 + 1, 1, none⟩) (Or.inl rfl) (.int .i64 mp.far))).trans (only_setCell (S := fun k => k = w.heap.size + 1 + 1 ∨ k = w.heap.size + 1 + 1 + 1) _ (p := ⟨w.heap.size + 1 + 1 + 1, 0, none⟩) (Or.inr rfl) (.iface 113 (.agg #[.int .i64 6, .int .i64 i'])))) (by omega) (by omega)).below (hdr _))
      clear hfin hR1 hL1 hc1 o0 x0 x1
      gi_wp2_with fail
      gi_region
      all_goals gi_wp2_with fail
      all_goals exact ⟨unhide HL1, fun o => ⟨rfl, mp, _, _, 6, i', (unhide HFIN).keep (only_putObj (S := fun k => k = l) (unhide HL1).1 rfl o) hBl (fun k hk => by rw [hk]; exact hlb)⟩⟩
     ·have hlt200 : mp.xs.length < 200 := by have := (unhide HMM).len; omega
      have hfits := ahead_fits hG (unhide HAH)
      have hxok : StepOk n x := by
       rw [unhide HXE0]
       have := (enterSp_ok hG hfits).1
       rw [enter_step hfits] at this
       exact ⟨this.1, this.2.1⟩
      refine ⟨trivial, (CallsIn.inRound _ (callsIn_wide.2 (enter_any B n ka ksh kst kca kcsh kcst mp.s long (spareOf n long mp.s mp.xs) mp.xs x Wb (unhide HRB).gb (fun wb hob => (hkO wb ((unhide HRB).only.trans hob)).pcs) hkB hlt200 hxok))).mono ?_⟩
      rintro e' Wq ⟨rfl, hgq, hoq⟩
      have hXE : x = ⟨(enterM n mp e).s.piece, (enterM n mp e).s.way⟩ := by
       show x = ⟨(enterSp n e).piece, (enterSp n e).way⟩
       rw [enter_step hfits, unhide HXE0]
      have hsp : (⟨x.piece, if x.way = -1 then lenOf n x.piece else 0, x.way⟩ : Sp) = enterSp n e := by
       rw [enter_step hfits, unhide HXE0]
      rw [hsp] at hgq
      have hRq : RunAt w n zs long F ⟨s, xs, 0, []⟩ B base (.slice ka n.pieces.length kca) (.slice ksh n.joints.length kcsh) (.slice kst n.pieces.length kcst) (enterM n mp e) ov sx Wq :=
       ⟨.step (unhide HRB).goes (.enter (unhide HFF) (unhide HRM) (unhide HAH) hlt200), by rw [enterM_spare hG (unhide HRM) (unhide HAH)]; exact hgq, (unhide HRB).x0.onlyS hoq.ob (by omega), (unhide HRB).x1.onlyS hoq.ob (by omega), (unhide HRB).x2.onlyS hoq.ob (by omega), (unhide HRB).x3.onlyS hoq.ob (by omega), (unhide HRB).x4.onlyS hoq.ob (by omega),
        (unhide HRB).row.only hoq.ob (fun k hk (he : k = B) => by have h1 := ((unhide HRB).row.lt k hk).1; omega), (unhide HRB).over.enter (unhide HRM) (unhide HAH) hlt200, (unhide HRB).oks, (unhide HRB).only.trans hoq⟩
      have hMq : MvOk n long F (enterM n mp e) := hRq.goes.ok hG hl (unhide HM)
      have hroomq : 0 < room n (enterM n mp e).s := by
       obtain ⟨h1, h2, _⟩ := enterSp_ok hG hfits
       have h3 := hG.len h1.1.1 h1.1.2
       have h4 : behind n (enterSp n e) = lenOf n (enterSp n e).piece - room n (enterSp n e) := rfl
       show 0 < room n (enterSp n e)
       omega
      have hfarq : (enterM n mp e).far < F ∧ (k : Int) ≤ (enterM n mp e).far + 1 := ⟨unhide HFF, unhide HKF⟩
      have hLq := (unhide HLB).only hoq.ob (show ¬ l = B by omega) (show ¬ D = B by omega)
      have hWq : base ≤ Wq.heap.size := Nat.le_trans hWbb hoq.size
      have HCQ := hide ((unhide HCB').onlyS hoq.ob (show ¬ C = B by omega))
      generalize enterM n mp e = m at *
      have HXE := hide hXE
      have HRMQ := hide hroomq
      have HFARQ := hide hfarq
      clear hXE hroomq hfarq hgq HRB HMM HLB HCB' HAH HXE0 HFF HRM HKF o0 x0 x1 hsp hxok hfits hoq
      obtain ⟨m2, hg2, hs2, hxs2, hf2, hov2, hend2, hpr2⟩ := roll_next hG hMq hRq.goes
      obtain ⟨hsm1, hsm2⟩ := roll_same hG hMq
      obtain ⟨hle1, hle2, hle3, _⟩ := roll_le hG hMq.spot (show (0 : Int) ≤ F - m.far by have := hMq.farF; omega)
      have hbe := spot_behind hG hMq.spot
      have hlen := hG.len hMq.spot.1.1 hMq.spot.1.2
      have hspq := spare_le hG hl hMq
      have hfar0 := hMq.far0
      have hfarF := hMq.farF
      have o0 := hRq.x0.2.1 0 _ rfl
      have o1 := hRq.x1.2.1 0 _ rfl
      have o4 := hRq.x4.2.1 0 _ rfl
      have o5 := hRq.x4.2.1 1 _ rfl
      have HRQ := hide hRq
      have HMQ := hide hMq
      have HG2 := hide hg2
      have HS2 := hide hs2
      have HXS2 := hide hxs2
      have HF2 := hide hf2
      have HOV2 := hide hov2
      have HEND2 := hide hend2
      have HPR2 := hide hpr2
      have HSM1 := hide hsm1
      have HSM2 := hide hsm2
      have HLQ := hide hLq
      clear hRq hMq hg2 hs2 hxs2 hf2 hov2 hend2 hpr2 hsm1 hsm2 hLq
      gi_wp2_with fail
      refine ⟨trivial, (CallsIn.inRound _ (callsIn_wide.2 (roll_any B n ka ksh kst kca kcsh kcst m.s long (spareOf n long m.s m.xs) (F - m.far) m.xs Wq (unhide HRQ).gb (fun wb hob => hkO wb ((unhide HRQ).only.trans hob)) hkB hG (unhide HMQ).spot (unhide HMQ).steps hspq (by omega)))).mono ?_⟩
      rintro e W1 ⟨rfl, hgb1, ho1⟩
      rw [unhide HSM1, unhide HSM2] at hgb1
      obtain ⟨lo, hlo⟩ : ∃ lo, behind n m.s = lo := ⟨_, rfl⟩
      obtain ⟨hi, hhi⟩ : ∃ hi, rollTo n m.s (F - m.far) = hi := ⟨_, rfl⟩
      rw [hlo, hhi] at hle1 hle3 HF2 HOV2 ⊢
      rw [hlo] at hbe
      rw [hhi] at hle2
      have hnl : ∀ k, k < base → k ≠ B → ¬ (fun k => k = B) k := fun k _ h => h
      have hy0 := (unhide HRQ).x0.onlyS ho1.ob (show ¬ w.heap.size = B by omega)
      have hy1 := (unhide HRQ).x1.onlyS ho1.ob (show ¬ w.heap.size + 1 = B by omega)
      have hy2 := (unhide HRQ).x2.onlyS ho1.ob (show ¬ w.heap.size + 1 + 1 = B by omega)
      have hy3 := (unhide HRQ).x3.onlyS ho1.ob (show ¬ w.heap.size + 1 + 1 + 1 = B by omega)
      have hy4 := (unhide HRQ).x4.onlyS ho1.ob (show ¬ w.heap.size + 1 + 1 + 1 + 1 = B by omega)
      have hrow1 := (unhide HRQ).row.only ho1.ob (fun k hk (he : k = B) => by have h1 := ((unhide HRQ).row.lt k hk).1; omega)
      have honly1 : OnB B w W1 := (unhide HRQ).only.trans ho1
      have hcq1 : Boxed W1 C (curL (.slice ka n.pieces.length kca) (.slice ksh n.joints.length kcsh) (.slice kst n.pieces.length kcst) (.slice zq zs.length zc) x (i' : Int) 0) := (unhide HCQ).onlyS ho1.ob (show ¬ C = B by omega)
      have hL1 := (unhide HLQ).only ho1.ob (show ¬ l = B by omega) (show ¬ D = B by omega)
      have hsz1 : base ≤ W1.heap.size := Nat.le_trans hWq ho1.size
      have e4 := hy4.2.1 0 _ rfl
      have e5 := hy4.2.1 1 _ rfl
      have e4z := hy4.2.2
      have e4l := hy4.1
      have HROW1 := hide hrow1
      have HY0 := hide hy0
      have HY1 := hide hy1
      have HY2 := hide hy2
      have HY3 := hide hy3
      have HY4 := hide hy4
      have HON1 := hide honly1
      have HCQ1 := hide hcq1
      have HL1 := hide hL1
      have HGB1 := hide hgb1
      clear hrow1 hy0 hy1 hy2 hy3 hy4 honly1 hcq1 hL1 hgb1 o0 o1 o4 o5
      gi_wp2_with (gi_at_builtin; refine wpListIn_append_own _ rfl (.tmp 54) (.tmp 56) 77 rfl base 81 i0 (.agg #[.int .i64 0, .int .i64 0, .int .i64 0, .int .i64 0]) 4 32 Tryz.underlying77 hi0 hz0 hz1 hz2 rfl (by decide) _ _ _ rfl ((unhide HROW1).below bw0) _ 1 1 (sxF ⟨⟨m.s.piece, m.s.way⟩, lo, hi⟩) rfl rfl ?c1a ?c2a ?c3a ?c4a ?c5a ?_)
      case c1a =>
       intro j u hj
       match j, hj with
       | 0, hj => simp [sxF] at hj; subst hj; simp only [Addr.add]; exact (boxedN _ _ _ (by simp)).2.1 0 _ rfl
       | 1, hj => simp [sxF] at hj; subst hj; simp only [Addr.add]; exact (boxedN _ _ _ (by simp)).2.1 1 _ rfl
       | 2, hj => simp [sxF] at hj; subst hj; simp only [Addr.add]; exact (boxedN _ _ _ (by simp)).2.1 2 _ rfl
       | 3, hj => simp [sxF] at hj; subst hj; simp only [Addr.add]; exact (boxedN _ _ _ (by simp)).2.1 3 _ rfl
      case c2a => intro u hu; simp [sxF] at hu; rcases hu with rfl | rfl | rfl | rfl <;> rfl
      case c3a => have := unhide HFEW; unfold maxLen; omega
      case c4a => have := unhide HFEW; omega
      case c5a => simp; omega
      intro v' w3 hown' hgrow _
      have hrow3 : SxRow w3 base v' (sx ++ [⟨⟨m.s.piece, m.s.way⟩, lo, hi⟩]) := Row.snoc (f := sxF) hown'
      have hrl := (unhide HROW1).lt
      have hb3 : Below base W1 w3 := Below.grown bw0 hgrow (by simp; omega) (fun j hj => (hrl j hj).1)
      have hneN : some W1.heap.size ≠ ov.ownBlock := fun hc => by have := (hrl _ hc.symm).2; omega
      have p2 : w3.cell? ⟨W1.heap.size, 2, none⟩ = some (.int .i64 lo) := (hgrow.cell_far ⟨W1.heap.size, 2, none⟩ (by simp; omega) hneN).trans (((boxed_alloc W1 _ _).alloc _).2.1 2 _ rfl)
      have p3 : w3.cell? ⟨W1.heap.size, 3, none⟩ = some (.int .i64 hi) := (hgrow.cell_far ⟨W1.heap.size, 3, none⟩ (by simp; omega) hneN).trans (((boxed_alloc W1 _ _).alloc _).2.1 3 _ rfl)
      have hoks : ∀ y ∈ sx ++ [(⟨⟨m.s.piece, m.s.way⟩, lo, hi⟩ : Sx)], SxOk n y := by
       intro y hy
       rcases List.mem_append.1 hy with hy | hy
       ·exact (unhide HRQ).oks y hy
       ·simp at hy
        subst hy
        exact ⟨⟨(unhide HMQ).spot.1, (unhide HMQ).spot.2.1⟩, ⟨show (0 : Int) ≤ lo by omega, show lo ≤ 10000000 by omega⟩, ⟨show (0 : Int) ≤ hi by omega, show hi ≤ 10000000 by omega⟩⟩
      have hov : OvS n zs long ⟨s, xs, 0, []⟩ m2 (sx ++ [(⟨⟨m.s.piece, m.s.way⟩, lo, hi⟩ : Sx)]) := (unhide HRQ).over.snoc (unhide HOV2)
      have hR4 := run_rolled (n := n) (zs := zs) (long := long) (F := F) (m0 := ⟨s, xs, 0, []⟩) (m2 := m2) (x := ⟨⟨m.s.piece, m.s.way⟩, lo, hi⟩) hBl (by omega) (unhide HG2) (by rw [unhide HS2, unhide HXS2]; exact unhide HGB1) (unhide HY0) (unhide HY1) (unhide HY2) (unhide HY3) (unhide HY4) hrow3 hb3 hov hoks (unhide HON1)
      rw [unhide HF2] at hR4
      have hcur4 := ((unhide HCQ1).belowU hb3 (by omega)).onlyS ((only_setCell (S := fun k => k = w.heap.size + 1 + 1 + 1 + 1) w3 (p := ⟨w.heap.size + 1 + 1 + 1 + 1, 0, none⟩) rfl v').trans (only_setCell (S := fun k => k = w.heap.size + 1 + 1 + 1 + 1) _ (p := ⟨w.heap.size + 1 + 1 + 1 + 1, 1, none⟩) rfl (.int .i64 (m.far + (hi - lo))))) (show ¬ C = w.heap.size + 1 + 1 + 1 + 1 by omega)
      have hL4 := ((unhide HL1).belowU hb3 (by omega) (by omega)).only ((only_setCell (S := fun k => k = w.heap.size + 1 + 1 + 1 + 1) w3 (p := ⟨w.heap.size + 1 + 1 + 1 + 1, 0, none⟩) rfl v').trans (only_setCell (S := fun k => k = w.heap.size + 1 + 1 + 1 + 1) _ (p := ⟨w.heap.size + 1 + 1 + 1 + 1, 1, none⟩) rfl (.int .i64 (m.far + (hi - lo))))) (show ¬ l = w.heap.size + 1 + 1 + 1 + 1 by omega) (show ¬ D = w.heap.size + 1 + 1 + 1 + 1 by omega)
      have hsz4 : base ≤ ((w3.setCell ⟨w.heap.size + 1 + 1 + 1 + 1, 0, none⟩ v').setCell ⟨w.heap.size + 1 + 1 + 1 + 1, 1, none⟩ (.int .i64 (m.far + (hi - lo)))).heap.size := by have := hb3.size; simp only [setCell_size]; omega
      have g1 := ((unhide HY1).belowU hb3 (by omega)).2.1 0 _ rfl
      have g2 := ((unhide HY2).belowU hb3 (by omega)).2.1 0 _ rfl
      have g2' := ((unhide HY2).belowU hb3 (by omega)).2.1 1 _ rfl
      have g2z := ((unhide HY2).belowU hb3 (by omega)).2.2
      have g3 := ((unhide HY3).belowU hb3 (by omega)).2.1 0 _ rfl
      have g3z := ((unhide HY3).belowU hb3 (by omega)).2.2
      have g4 := ((unhide HY4).belowU hb3 (by omega)).2.1 0 _ rfl
      have g4' := ((unhide HY4).belowU hb3 (by omega)).2.1 1 _ rfl
      have g4z := ((unhide HY4).belowU hb3 (by omega)).2.2
      have gl4 := ((unhide HY4).belowU hb3 (by omega)).1
      have gN1 : W1.heap.size < w3.heap.size := by have := hgrow.size; simp at this; omega
      have gN2 : ¬ W1.heap.size = w.heap.size + 1 + 1 + 1 + 1 := by omega
      have gN3 : ¬ w.heap.size + 1 + 1 + 1 + 1 = W1.heap.size := by omega
      obtain ⟨va, vcap, hv', _, _⟩ := hrow3.shape sxF_len
      rw [List.length_append, List.length_singleton] at hv'
      subst hv'
      have HR4 := hide hR4
      have HC4 := hide hcur4
      have HL4 := hide hL4
      have hfr : -100000000 ≤ m.far ∧ m.far ≤ 100000000 := ⟨by omega, by omega⟩
      have hloh : 0 ≤ lo ∧ hi ≤ 10000000 ∧ lo ≤ hi := ⟨by omega, by omega, by omega⟩
      clear hR4 hcur4 hL4 hown' hrow3 hgrow e4 e5 e4z e4l hneN hrl
      by_cases hq : m.far + (hi - lo) = F
      ·have hqb : (m.far + (hi - lo) == F) = true := by simpa using hq
       have hfin := (unhide HR4).finish (code := 0) (joint := -1) (Or.inl ⟨(unhide HF2).trans hq, rfl, rfl⟩) hBl (by omega) (by have := unhide HFEW; simp; omega) (ev := .nilIface) rfl
       rw [unhide HF2] at hfin
       have HFIN := hide hfin
       clear hq hfin
       gi_wp2_with fail
       have hL5 := (unhide HL4).only (((only_setCell (S := fun k => k = w.heap.size + 1 + 1 ∨ k = w.heap.size + 1 + 1 + 1) _ (p := ⟨w.heap.size + 1 + 1, 0, none⟩) (Or.inl rfl) (.slice va (sx.length + 1) vcap)).trans (only_setCell (S := fun k => k = w.heap.size + 1 + 1 ∨ k = w.heap.size + 1 + 1 + 1) _ (p := ⟨w.heap.size + 1 + 1, 1, none⟩) (Or.inl rfl) (.int .i64 (m.far + (hi - lo))))).trans (only_setCell (S := fun k => k = w.heap.size + 1 + 1 ∨ k = w.heap.size + 1 + 1 + 1) _ (p := ⟨w.heap.size + 1 + 1 + 1, 0, none⟩) (Or.inr rfl) .nilIface)) (by omega) (by omega)
       exact ⟨hL5, fun o => ⟨rfl, m2, _, _, 0, -1, (unhide HFIN).keep (only_putObj (S := fun k => k = l) hL5.1 rfl o) hBl (fun k hk => by rw [hk]; exact hlb)⟩⟩
      ·have hqb : (m.far + (hi - lo) == F) = false := by simpa using hq
       have HQ := hide hq
       clear hq
       gi_wp2_with fail
       have hop := only_putObj (S := fun k => k = l) (unhide HL4).1 rfl
       have hM2 := (unhide HG2).ok hG hl (unhide HM)
       have hne2 : m2.far ≠ F := by rw [unhide HF2]; exact unhide HQ
       exact ⟨unhide HL4, fun o => ⟨k, x, (i' : Int), rfl, unhide HJ, (unhide HC4).onlyS (hop o) (show ¬ C = l by omega), Nat.le_trans hsz4 (hop o).size, m2, _, _, (unhide HR4).keep (hop o) hBl (fun k hk => by rw [hk]; exact hlb), by rw [List.length_append, unhide HKX]; rfl, by have := hM2.farF; omega, unhide HEND2 hne2, by have h1 := unhide HPR2 (unhide HRMQ) (unhide HFARQ).1; have h2 := (unhide HFARQ).2; omega, by rw [unhide HS2]; exact unhide HXE⟩⟩
   case hiter =>
    rintro r hrs hrp hY
    rw [hD, hl'] at hY ⊢
    have hzb : ∀ b off, zq = some ⟨b, off, none⟩ → b < w.heap.size := by
     intro b off hb
     obtain ⟨i2, q2, hst⟩ := stands_some (hG.hd (unhide HM).spot.1.1 (unhide HM).spot.1.2 s.way)
     obtain ⟨b', off', e', h', _⟩ := hzO w (onB_refl _ _) i2 (by rw [unhide HZL]; exact hst.1)
     rw [hb] at e'
     simp at e'
     rw [e'.1]
     exact h'.2
    have hW0 : RunJ w n zs long F ⟨s, xs, 0, []⟩ B base C (.slice ka n.pieces.length kca) (.slice ksh n.joints.length kcsh) (.slice kst n.pieces.length kcst) (.slice zq zs.length zc) 0 ⟨s.piece, s.way⟩ 0 ((wc.alloc (.deferred (some []))).alloc (.loop r)) :=
     ⟨((unhide HCC).below bw0), by simp; omega, _, _, [], (unhide (HRc base)).below bw0 hBl, rfl, Or.inl ⟨rfl, rfl, rfl⟩⟩
    have hL0 : LoopAt l D r ((wc.alloc (.deferred (some []))).alloc (.loop r)) := by
     rw [← hl', ← hD]
     exact loop_new wc r
    refine (ahead_any C l 8 10001 n (.slice ka n.pieces.length kca) (.slice ksh n.joints.length kcsh) (.slice kst n.pieces.length kcst) zq zs zc hG (unhide HZL) (fun k x i W => LoopAt l D r W ∧ RunJ w n zs long F ⟨s, xs, 0, []⟩ B base C (.slice ka n.pieces.length kca) (.slice ksh n.joints.length kcsh) (.slice kst n.pieces.length kcst) (.slice zq zs.length zc) k x i W) (fun k x i W => LoopAt l D r W ∧ RunJ' w n zs long F ⟨s, xs, 0, []⟩ B base C (.slice ka n.pieces.length kca) (.slice ksh n.joints.length kcsh) (.slice kst n.pieces.length kcst) (.slice zq zs.length zc) k x i W)
     (fun W' => ∃ c, LoopAt l D { r with state := .done, pending := some c } W' ∧ RunO w n zs long F ⟨s, xs, 0, []⟩ B base (.slice ka n.pieces.length kca) (.slice ksh n.joints.length kcsh) (.slice kst n.pieces.length kcst) c W') _ ⟨s.piece, s.way⟩ 0 ?hY ?hJ (by omega) ?hJ' ?hnext ⟨hL0, hW0⟩).mono ?hm
    case hY =>
     rintro k x i W ⟨hLW, hJW⟩
     obtain ⟨fn, tmps, assign, body, hy, hR⟩ := hY #[.int .i64 k, .agg #[.int .i64 x.piece, .int .i64 x.way]] W hLW ⟨k, x, i, rfl, hJW⟩
     refine ⟨fn, tmps, assign, body, hy, hR.mono ?_⟩
     rintro e W' (⟨rfl, hL', k', x', i', ha, hj1, hj2⟩ | ⟨rfl, c, hL', hO⟩)
     ·left
      simp at ha
      obtain ⟨hk, hx1, hx2⟩ := ha
      have hk' : k = k' := by omega
      have hx' : x = x' := by
       cases x
       cases x'
       simp at hx1 hx2
       rw [hx1, hx2]
      subst hk'
      subst hx'
      have hi := hiO W i' i k x hj1 hJW.1
      subst hi
      exact ⟨rfl, hL', hj2⟩
     ·exact Or.inr ⟨rfl, c, hL', hO⟩
    case hJ =>
     rintro k x i W ⟨hLW, hCW, hsW, m, ov, sx, hRW, hsx, hc⟩
     refine ⟨?_, hCW⟩
     rcases hc with ⟨h0, _⟩ | ⟨_, h1, _, h2, _⟩ <;> omega
    case hJ' =>
     rintro k x i W ⟨hLW, hCW, hsW, m, ov, sx, hRW, hsx, hf, hrm, hkf, hx⟩
     have hMm := hRW.goes.ok hG hl (unhide HM)
     refine ⟨by omega, hCW, by rw [hx]; exact ⟨hMm.spot.1, hMm.spot.2.1⟩, fun wb hob => ?_⟩
     have hob' := hRW.only.step hob (fun i hi (ht : i = C) => by omega)
     exact ⟨hkO wb hob', hzO wb hob', fun b off hb => by have := hzb b off hb; omega⟩
    case hnext =>
     rintro k x i W i2 e W' ⟨hLW, hCW, hsW, m, ov, sx, hRW, hsx, hf, hrm, hkf, hx⟩ hah hoW hCW'
     refine ⟨hLW.only hoW (show ¬ l = C by omega) (show ¬ D = C by omega), hCW', Nat.le_trans hsW hoW.size, m, ov, sx, hRW.keep hoW hBl (fun k hk => by rw [hk]; omega), hsx, Or.inr ⟨by omega, hf, hrm, by omega, i2, e, rfl, ?_, rfl⟩⟩
     rw [hx] at hah
     exact hah
    case hm =>
     rintro e W' ⟨hv, hO | hA⟩
     ·exact ⟨hv, Or.inr hO⟩
     ·obtain ⟨k, x, i, W, i2, q, ⟨hLW, hJW⟩, hah, hne, hoW, hbW⟩ := hA
      exact ⟨hv, Or.inl ⟨hLW.only hoW (show ¬ l = C by omega) (show ¬ D = C by omega), k, x, i, W, i2, q, hJW, hah, hne, hoW, hbW⟩⟩
   case hdone =>
    intro W o hA hDW hrW
    rw [hD] at hDW
    rw [hD, hl'] at hrW ⊢
    obtain ⟨k, x, i, W3, i2, q, ⟨hC3, hs3, m, ov, sx, hR3, hsx, hf, hrm, hkf, hx⟩, hah, hne, ho3, hb3⟩ := hA
    obtain ⟨rr, hrr⟩ := hrW
    have hRW := hR3.keep ho3 hBl (fun k hk => by rw [hk]; omega)
    have hop := only_putObj (S := fun k => k = l) hrr rfl o
    have hRo := hRW.keep hop hBl (fun k hk => by rw [hk]; omega)
    have hCo := hb3.onlyS hop (show ¬ C = l by omega)
    have hDo : (W.putObj l o).heap[D]? = some (.deferred (some [])) := (World.putObj_heap_other (by omega)).trans hDW
    generalize W.putObj l o = Wo at *
    have a2 := hRo.x2.2.1 0 _ rfl
    have a2' := hRo.x2.2.1 1 _ rfl
    have a2z := hRo.x2.2.2
    have a2l := hRo.x2.1
    have a3 := hRo.x3.2.1 0 _ rfl
    have a3z := hRo.x3.2.2
    have a3l := hRo.x3.1
    have a4 := hRo.x4.2.1 0 _ rfl
    have a4' := hRo.x4.2.1 1 _ rfl
    have a4l := hRo.x4.1
    have d6 := hCo.2.1 6 _ rfl
    have d7 := hCo.2.1 7 _ rfl
    have d6l := hCo.1
    obtain ⟨va, vcap, hv', _, _⟩ := hRo.row.shape sxF_len
    subst hv'
    obtain ⟨⟨qp, qs⟩, qc⟩ := q
    dsimp only at hne d7 hCo
    rw [hx] at hah
    have hfin := hRo.finish (code := qc) (joint := i2) (Or.inr ⟨hf, hrm, i2, (⟨qp, qs⟩, qc), hah, Or.inl ⟨hne, rfl, rfl⟩⟩) hBl (by omega) (by omega) (ev := .iface 113 (.agg #[.int .i64 qc, .int .i64 i2])) (by unfold errV; rw [if_neg hne])
    have hdr : ∀ W : World, Below W.heap.size W W.drew := fun W => Below.drew (Below.refl _ _)
    have HFIN := hide (hfin.keep (T := fun _ => False) (only_of_below (hdr _)) hBl (fun _ h => h.elim))
    have hO5 : Only (fun k => k = w.heap.size + 1 + 1 ∨ k = w.heap.size + 1 + 1 + 1) Wo (((Wo.setCell ⟨w.heap.size + 1 + 1, 0, none⟩ (.slice va sx.length vcap)).setCell ⟨w.heap.size + 1 + 1, 1, none⟩ (.int .i64 m.far)).setCell ⟨w.heap.size + 1 + 1 + 1, 0, none⟩ (.iface 113 (.agg #[.int .i64 qc, .int .i64 i2]))).drew :=
     (((only_setCell Wo (p := ⟨w.heap.size + 1 + 1, 0, none⟩) (Or.inl rfl) _).trans (only_setCell _ (p := ⟨w.heap.size + 1 + 1, 1, none⟩) (Or.inl rfl) _)).trans (only_setCell _ (p := ⟨w.heap.size + 1 + 1 + 1, 0, none⟩) (Or.inr rfl) _)).trans (only_of_below (hdr _))
    have HDO := hide ((hO5.block D (Array.getElem?_eq_some_iff.1 hDo).1 (by omega)).trans hDo)
    have HSX := hide hsx
    clear hfin hR3 hRW hRo hCo hb3 hC3 hah hDo hne hO5 hsx
    gi_wp2_with fail
    refine wpIn_wide.2 ?_
    go_region
    all_goals gi_wp2_with fail
    all_goals exact run_out (unhide HR) (unhide HFIN) hBl (by omega) (by omega) (unhide HDO) rfl rfl
   case hstop =>
    intro c W o hO hDW hrW
    rw [hD] at hDW
    rw [hD, hl'] at hrW ⊢
    obtain ⟨rr, hrr⟩ := hrW
    obtain ⟨rfl, m, ov, sx, code, joint, hE⟩ := hO
    have hop := only_putObj (S := fun k => k = l) hrr rfl o
    have hEo := hE.keep hop hBl (fun k hk => by rw [hk]; omega)
    have hDo : (W.putObj l o).heap[D]? = some (.deferred (some [])) := (World.putObj_heap_other (by omega)).trans hDW
    generalize W.putObj l o = Wo at *
    have HEO := hide hEo
    have HDO := hide hDo
    clear hE hEo hDo
    gi_wp2_with fail
    exact run_out (unhide HR) (unhide HEO) hBl (by omega) (by omega) (unhide HDO) rfl rfl

end Go.Proofs.YtjacbppeebnjfaaGreat

