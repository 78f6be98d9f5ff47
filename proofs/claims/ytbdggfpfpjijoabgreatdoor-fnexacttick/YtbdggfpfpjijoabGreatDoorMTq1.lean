import Derived.Test.YtbdggfpfpjijoabGreatDoorMTk7
set_option linter.unusedSimpArgs false
namespace Go.Proofs.YtbdggfpfpjijoabGreatDoor
open Go.RowKit

theorem ownsRow_set {w : World} {base : Nat} {e : TypeId} {sz g m n cap : Nat} {xs : List Value} (h : w.ownsRow base e sz (.slice (some ⟨g, 0, none⟩) m cap) n xs) (k : Nat) (hk : k < n * sz) (u : Value) : (w.setCell ⟨g, k, none⟩ u).ownsRow base e sz (.slice (some ⟨g, 0, none⟩) m cap) n (xs.set k u) := by
 obtain ⟨h0, ⟨h1, _⟩ | ⟨g', cap', cur, h1, hb, hh, hc, hm, hs, ht⟩⟩ := h
 ·simp at h1
 ·simp only [Value.slice.injEq, Option.some.injEq, Addr.mk.injEq, and_true] at h1
  obtain ⟨rfl, rfl, rfl⟩ := h1
  refine ⟨by simpa using h0, Or.inr ⟨g, cap, cur.setIfInBounds k u, rfl, hb, ?_, hc, hm, by simpa using hs, ?_⟩⟩
  ·simp [World.setCell, Array.getElem?_modify, hh]
  ·rw [Array.toList_setIfInBounds, List.take_set, ht]
theorem tv_set (t : Tr) (u : Value) : ∀ (qs : List (Tr × Value)) (i : Nat), i < qs.length → ((((((qs.flatMap tvF).set (i * 5) (.int .i64 t.front.piece)).set (i * 5 + 1) (.int .i64 t.front.at_)).set (i * 5 + 2) (.int .i64 t.front.way)).set (i * 5 + 3) (.int .i64 t.long)).set (i * 5 + 4) u) = (qs.set i (t, u)).flatMap tvF
 | [], i, h => absurd h (by simp)
 | q :: r, 0, _ => by simp [tvF]
 | q :: r, i + 1, h => by
  have ih := tv_set t u r i (by simpa using h)
  have e : (i + 1) * 5 = i * 5 + 5 := by omega
  rw [e, List.set_cons_succ]
  simp only [List.flatMap_cons]
  rw [← ih]
  simp [tvF]
theorem TvRow.put {w : World} {base g m cap : Nat} {qs : List (Tr × Value)} (h : TvRow w base (.slice (some ⟨g, 0, none⟩) m cap) qs) {i : Nat} (hi : i < qs.length) (t : Tr) (u : Value) : TvRow (((((w.setCell ⟨g, i * 5, none⟩ (.int .i64 t.front.piece)).setCell ⟨g, i * 5 + 1, none⟩ (.int .i64 t.front.at_)).setCell ⟨g, i * 5 + 2, none⟩ (.int .i64 t.front.way)).setCell ⟨g, i * 5 + 3, none⟩ (.int .i64 t.long)).setCell ⟨g, i * 5 + 4, none⟩ u) base (.slice (some ⟨g, 0, none⟩) m cap) (qs.set i (t, u)) := by
 have h5 := ownsRow_set (ownsRow_set (ownsRow_set (ownsRow_set (ownsRow_set h (i * 5) (by omega) (.int .i64 t.front.piece)) (i * 5 + 1) (by omega) (.int .i64 t.front.at_)) (i * 5 + 2) (by omega) (.int .i64 t.front.way)) (i * 5 + 3) (by omega) (.int .i64 t.long)) (i * 5 + 4) (by omega) u
 show World.ownsRow _ _ _ _ _ (qs.set i (t, u)).length _
 rw [List.length_set, ← tv_set t u qs i hi]
 exact h5
theorem map_set_fst (qs : List (Tr × Value)) (i : Nat) (t : Tr) (u : Value) : (qs.set i (t, u)).map Prod.fst = (qs.map Prod.fst).set i t := by rw [List.map_set]
theorem TkR.setT {w : World} {A g m cap : Nat} {ts : List Tr} {codes fars : List Int} {sks : List (Int × Int)} {vc vf vk : Value} {t : Tr} {a : Option Addr} {sc : Nat} (h : TkR False w A ts codes fars sks (.slice (some ⟨g, 0, none⟩) m cap) vc vf vk) {i : Nat} (hi : i < ts.length) (hst : StRow w (A + 1) (.slice a t.back.length sc) t.back) :
  TkR False (((((w.setCell ⟨g, i * 5, none⟩ (.int .i64 t.front.piece)).setCell ⟨g, i * 5 + 1, none⟩ (.int .i64 t.front.at_)).setCell ⟨g, i * 5 + 2, none⟩ (.int .i64 t.front.way)).setCell ⟨g, i * 5 + 3, none⟩ (.int .i64 t.long)).setCell ⟨g, i * 5 + 4, none⟩ (.slice a t.back.length sc)) A (ts.set i t) codes fars sks (.slice (some ⟨g, 0, none⟩) m cap) vc vf vk
  ∧ Only (fun k => k = g) w (((((w.setCell ⟨g, i * 5, none⟩ (.int .i64 t.front.piece)).setCell ⟨g, i * 5 + 1, none⟩ (.int .i64 t.front.at_)).setCell ⟨g, i * 5 + 2, none⟩ (.int .i64 t.front.way)).setCell ⟨g, i * 5 + 3, none⟩ (.int .i64 t.long)).setCell ⟨g, i * 5 + 4, none⟩ (.slice a t.back.length sc)) := by
 obtain ⟨qs, hq, hv, hqe, _⟩ := h.rt
 have hlen : qs.length = ts.length := by rw [← hq, List.length_map]
 have hput := hv.put (i := i) (by omega) t (.slice a t.back.length sc)
 have hgl := hv.lt g rfl
 have hgt := hv.ty (k := g) rfl
 have ho : Only (fun k => k = g) w (((((w.setCell ⟨g, i * 5, none⟩ (.int .i64 t.front.piece)).setCell ⟨g, i * 5 + 1, none⟩ (.int .i64 t.front.at_)).setCell ⟨g, i * 5 + 2, none⟩ (.int .i64 t.front.way)).setCell ⟨g, i * 5 + 3, none⟩ (.int .i64 t.long)).setCell ⟨g, i * 5 + 4, none⟩ (.slice a t.back.length sc)) :=
  ((((only_setCell (S := fun k => k = g) w (p := ⟨g, i * 5, none⟩) rfl _).trans (only_setCell (S := fun k => k = g) _ (p := ⟨g, i * 5 + 1, none⟩) rfl _)).trans (only_setCell (S := fun k => k = g) _ (p := ⟨g, i * 5 + 2, none⟩) rfl _)).trans (only_setCell (S := fun k => k = g) _ (p := ⟨g, i * 5 + 3, none⟩) rfl _)).trans (only_setCell (S := fun k => k = g) _ (p := ⟨g, i * 5 + 4, none⟩) rfl _)
 generalize (((((w.setCell ⟨g, i * 5, none⟩ (.int .i64 t.front.piece)).setCell ⟨g, i * 5 + 1, none⟩ (.int .i64 t.front.at_)).setCell ⟨g, i * 5 + 2, none⟩ (.int .i64 t.front.way)).setCell ⟨g, i * 5 + 3, none⟩ (.int .i64 t.long)).setCell ⟨g, i * 5 + 4, none⟩ (.slice a t.back.length sc)) = w' at hput ho ⊢
 have hk : ∀ k T, IsTy w k T → T ≠ 37 → w'.heap[k]? = w.heap[k]? := fun k T h1 h2 => ho.block k h1.lt (fun e => by subst e; exact h2 (h1.unique hgt))
 refine ⟨⟨isTy_only h.ty ho, boxed_kept h.box (hk A _ h.ty (by decide)) ho.size, ⟨qs.set i (t, .slice a t.back.length sc), by rw [map_set_fst, hq], hput, fun q hm => ?_, False.elim⟩, h.rc.block fun k h1 => hk k _ (h.rc.ty h1) (by decide), h.rf.block fun k h1 => hk k _ (h.rf.ty h1) (by decide), h.dis, h.rk.block fun k h1 => hk k _ (h.rk.ty h1) (by decide)⟩, ho⟩
 rcases List.mem_or_eq_of_mem_set hm with hm | rfl
 ·obtain ⟨a', c', he, hr⟩ := hqe q hm
  exact ⟨a', c', he, hr.block fun k h1 => hk k _ (hr.ty h1) (by decide)⟩
 ·exact ⟨a, sc, rfl, hst.block fun k h1 => hk k _ (hst.ty h1) (by decide)⟩
theorem TkR.addS {d : Prop} {w w5 : World} {A : Nat} {ts : List Tr} {codes fars : List Int} {sks : List (Int × Int)} {vt vc vf vk v' : Value} {x : Int × Int} (h : TkR d w A ts codes fars sks vt vc vf vk) (hg : w.grownBy w5 vk.ownBlock) (hown : SkRow w5 (A + 1) v' (sks ++ [x])) : TkR d (w5.setCell ⟨A, 4, none⟩ v') A ts codes fars (sks ++ [x]) vt vc vf v' := by
 have hne : some A ≠ vk.ownBlock := fun e => by have := (h.rk.lt A e.symm).1; omega
 have hA := hg.block A h.ty.lt hne
 have hs : A < A + 1 := by omega
 obtain ⟨qs, hq, hv, hqe, htw⟩ := h.rt
 refine ⟨isTy_set (h.ty.same hA) _ _, by simpa using (boxed_grown' hg h.box hne).setAt (i := 4) (by simp) v', ⟨qs, hq, (hv.kept hg (fun k hk hc => Row.apart hv h.rk (by decide) k hk hc)).setCell (p := ⟨A, 4, none⟩) hs v', fun q hm => ?_, htw⟩, (h.rc.kept hg (fun k hk hc => Row.apart h.rc h.rk (by decide) k hk hc)).setCell (p := ⟨A, 4, none⟩) hs v', (h.rf.kept hg (fun k hk hc => Row.apart h.rf h.rk (by decide) k hk hc)).setCell (p := ⟨A, 4, none⟩) hs v', h.dis, hown.setCell (p := ⟨A, 4, none⟩) hs v'⟩
 obtain ⟨a', cap', he, hr⟩ := hqe q hm
 exact ⟨a', cap', he, (hr.kept hg (fun k hk hc => Row.apart hr h.rk (by decide) k hk hc)).setCell (p := ⟨A, 4, none⟩) hs v'⟩

theorem sts_news {L : Nat} {w : World} {b off : Nat} {xs : List St} (h : StsAt L w (some ⟨b, off, none⟩) xs) : ∀ j u, (xs.flatMap stF)[j]? = some u → w.cell? ((⟨b, off, none⟩ : Addr).add j) = some u := by
 intro j u hj
 have hl := flat_len stF_len xs
 have hjl : j < (xs.flatMap stF).length := (List.getElem?_eq_some_iff.1 hj).1
 have hi : j / 2 < xs.length := by omega
 have e : j = j / 2 * 2 + j % 2 := by omega
 have hadd : (⟨b, off, none⟩ : Addr).add j = ⟨b, off + j, none⟩ := by simp [Addr.add]
 obtain ⟨b', off', ha, _, c0, c1⟩ := h (j / 2) hi
 simp only [Option.some.injEq, Addr.mk.injEq, and_true] at ha
 obtain ⟨rfl, rfl⟩ := ha
 rw [e, flat_get stF_len xs (j / 2) (j % 2) hi (by omega)] at hj
 rw [hadd]
 rcases Nat.mod_two_eq_zero_or_one j with h0 | h1
 ·rw [h0] at hj
  simp [stF] at hj
  subst hj
  rw [← c0]
  congr 2
  omega
 ·rw [h1] at hj
  simp [stF] at hj
  subst hj
  rw [← c1]
  congr 2
  omega

end Go.Proofs.YtbdggfpfpjijoabGreatDoor

set_option linter.unusedSimpArgs false
namespace Go.Proofs.YtbdggfpfpjijoabGreatDoor
open Go.RowKit

theorem isTy_free {w : World} {k : Nat} {T : TypeId} (h : IsTy w k T) (j : Nat) : w.frozen? ⟨k, j, none⟩ = false := by
 obtain ⟨c, hc⟩ := h
 simp [World.frozen?, hc]
theorem stRow_at0 {w : World} {base : Nat} {a : Option Addr} {m cap : Nat} {xs : List St} (h : StRow w base (.slice a m cap) xs) : StsAt 0 w a xs := by
 obtain ⟨a', cap', hv, _, hx⟩ := stRow_at (h.mono (Nat.zero_le _))
 simp at hv
 rw [hv.1]
 exact hx
theorem TnD.get {d : Prop} {w : World} {base : Nat} {v : Value} {ts : List Tr} (h : TnD d w base v ts) {i : Nat} (hi : i < ts.length) : ∃ g cap sa sc, v = .slice (some ⟨g, 0, none⟩) ts.length cap ∧ (base ≤ g ∧ g < w.heap.size) ∧ IsTy w g 37 ∧ w.cell? ⟨g, i * 5, none⟩ = some (.int .i64 (trAt ts i).front.piece) ∧ w.cell? ⟨g, i * 5 + 1, none⟩ = some (.int .i64 (trAt ts i).front.at_) ∧ w.cell? ⟨g, i * 5 + 2, none⟩ = some (.int .i64 (trAt ts i).front.way) ∧ w.cell? ⟨g, i * 5 + 3, none⟩ = some (.int .i64 (trAt ts i).long)
  ∧ w.cell? ⟨g, i * 5 + 4, none⟩ = some (.slice sa (trAt ts i).back.length sc) ∧ StRow w base (.slice sa (trAt ts i).back.length sc) (trAt ts i).back := by
 obtain ⟨qs, rfl, h1, h2, _⟩ := h
 obtain ⟨a, cap, e, _, hc⟩ := h1.shape tvF_len
 have hi' : i < qs.length := by simpa using hi
 obtain ⟨g, hg, hl, hcell⟩ := hc i hi'
 obtain ⟨sa, sc, he, hr⟩ := h2 qs[i] (List.getElem_mem hi')
 have htr : trAt (qs.map Prod.fst) i = (qs[i]).1 := by simp [trAt, List.getElem?_eq_getElem hi']
 subst e
 subst hg
 rw [htr]
 rw [he] at hr
 have c4 : w.cell? ⟨g, i * 5 + 4, none⟩ = some (qs[i]).2 := by simpa [tvF] using hcell 4 (by omega)
 rw [he] at c4
 exact ⟨g, cap, sa, sc, by simp, hl, h1.ty rfl, by simpa [tvF] using hcell 0 (by omega), by simpa [tvF] using hcell 1 (by omega), by simpa [tvF] using hcell 2 (by omega), by simpa [tvF] using hcell 3 (by omega), c4, hr⟩

structure TkY (w0 : World) (A : Nat) (n0 r8 qc : List Value) (Q : Nat) (ov bk : Value) (ovs : List Pt) (bks : List St) (w : World) : Prop where
 n : Boxed w w0.heap.size n0
 r : Boxed w (w0.heap.size + 1) r8
 qb : Boxed w Q qc
 qt : IsTy w Q 40
 po : PtRow w (A + 1) ov ovs
 pb : StRow w (A + 1) bk bks
 lo : w0.heap.size + 1 < A
 bel : Below w0.heap.size w0 w
theorem TkY.kept {w0 : World} {A : Nat} {n0 r8 qc : List Value} {Q : Nat} {ov bk : Value} {ovs : List Pt} {bks : List St} {w w' : World} (h : TkY w0 A n0 r8 qc Q ov bk ovs bks w) (hb : Below A w w') (hk : ∀ k T, IsTy w k T → (T = 40 ∨ T = 138 ∨ T = 86) → w'.heap[k]? = w.heap[k]?) : TkY w0 A n0 r8 qc Q ov bk ovs bks w' :=
 have hlo := h.lo
 ⟨boxed_kept h.n (hb.block _ (by omega)) hb.size, boxed_kept h.r (hb.block _ (by omega)) hb.size, boxed_kept h.qb (hk Q _ h.qt (Or.inl rfl)) hb.size, h.qt.same (hk Q _ h.qt (Or.inl rfl)), h.po.block fun k h1 => hk k _ (h.po.ty h1) (Or.inr (Or.inl rfl)), h.pb.block fun k h1 => hk k _ (h.pb.ty h1) (Or.inr (Or.inr rfl)), h.lo, h.bel.trans (hb.mono (by omega))⟩
theorem TkY.below {w0 : World} {A : Nat} {n0 r8 qc : List Value} {Q : Nat} {ov bk : Value} {ovs : List Pt} {bks : List St} {w w' : World} (h : TkY w0 A n0 r8 qc Q ov bk ovs bks w) (hA : A ≤ w.heap.size) (hb : Below w.heap.size w w') : TkY w0 A n0 r8 qc Q ov bk ovs bks w' := h.kept (hb.mono hA) fun k _ hk _ => hb.block k hk.lt
theorem TkY.grown {w0 : World} {A : Nat} {n0 r8 qc : List Value} {Q : Nat} {ov bk : Value} {ovs : List Pt} {bks : List St} {w w' : World} {r : Option Nat} (h : TkY w0 A n0 r8 qc Q ov bk ovs bks w) (hA : A ≤ w.heap.size) (hg : w.grownBy w' r) (hr : ∀ k, r = some k → A ≤ k ∧ ∃ T, IsTy w k T ∧ GTy T) : TkY w0 A n0 r8 qc Q ov bk ovs bks w' := by
 refine h.kept (Below.grown (Below.refl _ w) hg hA (fun k hk => (hr k hk).1)) fun k T hk hT => hg.block k hk.lt (fun e => ?_)
 obtain ⟨_, T', h1, h2⟩ := hr k e.symm
 have := hk.unique h1
 subst this
 rcases hT with rfl | rfl | rfl <;> rcases h2 with h2 | h2 | h2 <;> exact absurd h2 (by decide)
theorem TkY.set {w0 : World} {A : Nat} {n0 r8 qc : List Value} {Q : Nat} {ov bk : Value} {ovs : List Pt} {bks : List St} {w : World} (h : TkY w0 A n0 r8 qc Q ov bk ovs bks w) (hA : IsTy w A 63) (j : Nat) (v : Value) : TkY w0 A n0 r8 qc Q ov bk ovs bks (w.setCell ⟨A, j, none⟩ v) := by
 have ho : Only (fun k => k = A) w (w.setCell ⟨A, j, none⟩ v) := only_setCell (S := fun k => k = A) w (p := ⟨A, j, none⟩) rfl v
 refine h.kept (ho.below (Nat.le_of_lt hA.lt) (fun k hk e => by omega)) fun k T hk hT => ho.block k hk.lt (fun e => ?_)
 subst e
 have := hk.unique hA
 rcases hT with rfl | rfl | rfl <;> exact absurd this (by decide)
theorem TkY.onlyT {w0 : World} {A g : Nat} {n0 r8 qc : List Value} {Q : Nat} {ov bk : Value} {ovs : List Pt} {bks : List St} {w w' : World} (h : TkY w0 A n0 r8 qc Q ov bk ovs bks w) (hg : IsTy w g 37) (hA : A + 1 ≤ g) (ho : Only (fun k => k = g) w w') : TkY w0 A n0 r8 qc Q ov bk ovs bks w' := by
 have := hg.lt
 refine h.kept (ho.below (by omega) (fun k hk e => by omega)) fun k T hk hT => ho.block k hk.lt (fun e => ?_)
 subst e
 have := hk.unique hg
 rcases hT with rfl | rfl | rfl <;> exact absurd this (by decide)

end Go.Proofs.YtbdggfpfpjijoabGreatDoor

