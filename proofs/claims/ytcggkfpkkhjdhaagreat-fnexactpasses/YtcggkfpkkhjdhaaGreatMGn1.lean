import Derived.Test.YtcggkfpkkhjdhaaGreatMPm3
import Derived.Test.YtcggkfpkkhjdhaaGreatMRo
import Derived.Test.YtcggkfpkkhjdhaaGreatMPlain
import Derived.Test.YtcggkfpkkhjdhaaGreatMKt17
import Derived.Test.YtcggkfpkkhjdhaaGreatMPw2
import Derived.Test.YtcggkfpkkhjdhaaGreatPw7
import Derived.Test.YtcggkfpkkhjdhaaGreatMPs2
import Derived.Shelf.SlSortCmp.NoneTotal
set_option linter.unusedSimpArgs false
namespace Go.Proofs.YtcggkfpkkhjdhaaGreat
open Go.RowKit Go.Shelf Go.Lib

/-! ### Rows for the library's own contracts -/

section
variable {α : Type} [Inhabited α]
theorem flatK_list {f : α → List Value} {sz : Nat} (hf : ∀ x, (f x).length = sz) (hsz : 0 < sz) (xs : List α) (t : Nat) (ht : t < xs.length * sz) : (xs.flatMap f)[t]? = some ((Sort.flatK f sz xs.toArray)[t]!) := by
  have h1 : t / sz < xs.length := Nat.div_lt_of_lt_mul (by rw [Nat.mul_comm]; exact ht)
  have h2 : t % sz < sz := Nat.mod_lt _ hsz
  have h3 := flat_get hf xs (t / sz) (t % sz) h1 h2
  rw [show t / sz * sz + t % sz = t by rw [Nat.mul_comm]; exact Nat.div_add_mod t sz] at h3
  rw [h3, Sort.get_flatK f sz xs.toArray t (by simpa using ht)]
  have h4 : xs.toArray[t / sz]! = xs[t / sz] := by simp [h1]
  rw [h4, List.getElem?_eq_getElem (by rw [hf]; exact h2)]
  simp [hf, h2]
theorem flatK_size (f : α → List Value) (sz : Nat) (d : Array α) : (Sort.flatK f sz d).size = d.size * sz := by simp [Sort.flatK]
theorem row_holds {w : World} {base : Nat} {e : TypeId} {sz g n cap : Nat} {f : α → List Value} {xs : List α} (hf : ∀ x, (f x).length = sz) (hsz : 0 < sz) (h : Row w base e sz f (.slice (some ⟨g, 0, none⟩) n cap) xs) : Sort.HoldsK f sz w g 0 xs.toArray := by
  obtain ⟨h0, ⟨h1, _⟩ | ⟨g', cap', cur, h1, hb, hh, hc, hm, hs, ht⟩⟩ := h
  · simp at h1
  · simp only [Value.slice.injEq, Option.some.injEq, Addr.mk.injEq, and_true] at h1
    obtain ⟨rfl, rfl, rfl⟩ := h1
    intro t hlt
    rw [flatK_size, List.size_toArray] at hlt
    have h3 := flatK_list hf hsz xs t hlt
    rw [← ht, List.getElem?_take_of_lt hlt] at h3
    refine ⟨?_, ?_⟩
    · unfold World.cell?
      rw [hh]
      simpa using h3
    · unfold World.frozen?
      rw [hh]
      simp
theorem row_laid {w : World} {base : Nat} {e : TypeId} {sz g n cap m : Nat} {f : α → List Value} {xs ys : List α} {os : Array Obj} (hf : ∀ x, (f x).length = sz) (hsz : 0 < sz) (h : Row w base e sz f (.slice (some ⟨g, 0, none⟩) n cap) xs) (hl : ys.length = xs.length) :
    Row (Sort.grow (Sort.putRowK f sz (Sort.ahead w m) g 0 ys.toArray) os) base e sz f (.slice (some ⟨g, 0, none⟩) n cap) ys ∧ HpTo g w (.slice none 0 0) (Sort.grow (Sort.putRowK f sz (Sort.ahead w m) g 0 ys.toArray) os) (.slice none 0 0) := by
  have hg := (h.lt g rfl).2
  obtain ⟨h0, ⟨h1, _⟩ | ⟨g', cap', cur, h1, hb, hh, hc, hm, hs, ht⟩⟩ := h
  · simp at h1
  · simp only [Value.slice.injEq, Option.some.injEq, Addr.mk.injEq, and_true] at h1
    obtain ⟨rfl, rfl, rfl⟩ := h1
    have hheap : ∀ k, k < w.heap.size → (Sort.grow (Sort.putRowK f sz (Sort.ahead w m) g 0 ys.toArray) os).heap[k]? = (w.heap.modify g (Sort.onCells (Sort.putCells id 0 (Sort.flatK f sz ys.toArray))))[k]? := fun k hk => by
      show ((w.heap.modify g _) ++ os)[k]? = _
      rw [Array.getElem?_append, if_pos (by simpa using hk)]
    refine ⟨⟨flat_len hf ys, Or.inr ⟨g, cap, Sort.putCells id 0 (Sort.flatK f sz ys.toArray) cur, by rw [hl], hb, ?_, by rw [hl]; exact hc, hm, by simpa [Sort.putCells] using hs, ?_⟩⟩, rfl, rfl, rfl, ?_, fun k hk hne _ => ?_, fun k hk => by simp [Value.ownBlock] at hk⟩
    · rw [hheap g hg, Array.getElem?_modify, if_pos rfl, hh]
      rfl
    · apply List.ext_getElem?
      intro t
      by_cases hlt : t < ys.length * sz
      · rw [List.getElem?_take_of_lt hlt, flatK_list hf hsz ys t hlt]
        have hle : ys.length * sz ≤ cur.size := by rw [hs, hl]; exact Nat.mul_le_mul_right _ hc
        rw [Array.getElem?_toList]
        simp [Sort.putCells, flatK_size, hlt, show t < cur.size by omega]
      · rw [List.getElem?_eq_none (by rw [List.length_take]; omega), List.getElem?_eq_none (by rw [flat_len hf ys]; omega)]
    · show w.heap.size ≤ ((w.heap.modify g _) ++ os).size
      simp
    · rw [hheap k hk, Array.getElem?_modify, if_neg (fun e => hne e.symm)]
end
instance : Inhabited Mrk := ⟨noMk⟩
instance : Inhabited Sx := ⟨⟨⟨0, 0⟩, 0, 0⟩⟩
theorem mkF_len (m : Mrk) : (mkF m).length = 3 := rfl
abbrev MkRow (w : World) (base : Nat) (v : Value) (ms : List Mrk) : Prop := Row w base 167 3 mkF v ms
def Mlt' (x y : Mrk) : Prop := x.far < y.far ∨ (x.far = y.far ∧ x.post < y.post)
instance (x y : Mrk) : Decidable (Mlt' x y) := by unfold Mlt'; infer_instance
theorem cmpM_lt (x y : Mrk) : ltOf cmpM x y = decide (Mlt' x y) := by
  unfold ltOf cmpM orI cmpI Mlt'
  by_cases h1 : x.far < y.far
  · simp [h1]
  · by_cases h2 : y.far < x.far
    · have : ¬ x.far = y.far := by omega
      simp [h1, h2, this]
    · have e : x.far = y.far := by omega
      by_cases h3 : x.post < y.post
      · simp [e, h3]
      · by_cases h4 : y.post < x.post <;> simp [e, h3, h4]
theorem swoM : Sort.SWO (ltOf cmpM) where
  irrefl x := by rw [cmpM_lt]; simp [Mlt']
  trans x y z h1 h2 := by
    rw [cmpM_lt] at h1 h2 ⊢
    have g1 := of_decide_eq_true h1
    have g2 := of_decide_eq_true h2
    refine decide_eq_true ?_
    unfold Mlt' at *
    omega
  ntrans x y z h1 h2 := by
    rw [cmpM_lt] at h1 h2 ⊢
    have g1 := of_decide_eq_false h1
    have g2 := of_decide_eq_false h2
    refine decide_eq_false ?_
    unfold Mlt' at *
    omega
theorem mk_one (x : Mrk) : ∀ v ∈ mkF x, v.oneCell' = true := by
  intro u hu
  simp [mkF] at hu
  rcases hu with rfl | rfl | rfl <;> rfl
/-- The marks sorted. -/
theorem sortM_any (g n cap base : Nat) (M : List Mrk) (w : World) (h : MkRow w base (.slice (some ⟨g, 0, none⟩) n cap) M) (hn : n = M.length) (hl : M.length ≤ 10000000) :
    Calls Tryz.prog 81 #[.slice (some ⟨g, 0, none⟩) n cap, .func (.func 82) #[] #[]] w fun e w' => e = .returned (.tuple #[]) ∧ ∃ M', M'.Perm M ∧ M'.Pairwise (fun x y => ¬ Mlt y x) ∧ MkRow w' base (.slice (some ⟨g, 0, none⟩) n cap) M' ∧ HpTo g w (.slice none 0 0) w' (.slice none 0 0) := by
  have eg : ∀ args w, (callFunc 82 args).run Tryz.prog w = .ok (.enter 82 args) w := enters_of Tryz.func82 (by kernel_rfl) rfl
  have hcmp : CmpLays Tryz.prog 82 #[] mkF 3 cmpM g 0 M.toArray.size w := fun m os dk _ x y => markCompare_any x y _
  have hcon := AnyQ.slices_SortFunc Tryz.laySort 3 Tryz.isAgg167 Tryz.sizeOf167 mkF mkF_len mk_one cmpM swoM 82 #[] g 0 cap M.toArray w eg hcmp (row_holds mkF_len (by omega) h) (h.lt g rfl).2 (by simp; omega)
  change Calls Tryz.prog 81 _ _ _ at hcon
  rw [List.size_toArray, ← hn] at hcon
  refine hcon.mono ?_
  rintro e w' ⟨rfl, d', m, os, hp, hs, rfl⟩
  obtain ⟨p1, _, p3⟩ := hp
  have p1 : d'.size = M.length := by simpa using p1
  have hx : (d'.extract 0 n).toList = d'.toList := by rw [show n = d'.size by omega]; simp
  have hx2 : (M.toArray.extract 0 n).toList = M := by rw [hn]; simp
  rw [hx, hx2] at p3
  have hrl := row_laid (m := m) (os := os) mkF_len (by omega) h (ys := d'.toList) (by simpa using p1)
  refine ⟨rfl, d'.toList, p3, ?_, hrl.1, hrl.2⟩
  rw [List.pairwise_iff_getElem]
  intro i j hi hj hij
  rw [Array.length_toList] at hi hj
  have := hs i j (Nat.zero_le _) hij (by omega)
  rw [cmpM_lt] at this
  have this := of_decide_eq_false this
  unfold Mlt' at this
  rw [getElem!_pos d' i hi, getElem!_pos d' j hj] at this
  simp only [Array.getElem_toList]
  unfold Mlt
  exact this

theorem sx_ones (x : Sx) : ∀ v ∈ sxF x, v.oneCell' = true := by
  intro u hu
  simp [sxF] at hu
  rcases hu with rfl | rfl | rfl | rfl <;> rfl
/-- Stretches the other way round. -/
theorem revX_any (g n cap base : Nat) (xs : List Sx) (w : World) (h : SxRow w base (.slice (some ⟨g, 0, none⟩) n cap) xs) (hn : n = xs.length) (hl : xs.length ≤ 10000000) :
    Calls Tryz.prog 40 #[.slice (some ⟨g, 0, none⟩) n cap] w fun e w' => e = .returned (.tuple #[]) ∧ SxRow w' base (.slice (some ⟨g, 0, none⟩) n cap) xs.reverse ∧ HpTo g w (.slice none 0 0) w' (.slice none 0 0) := by
  have hcon := AnyQ.slices_Reverse Tryz.layRev 4 Tryz.isAgg103 Tryz.sizeOf103 sxF sxF_len sx_ones g 0 cap xs.toArray w (row_holds sxF_len (by omega) h) (by simp; omega)
  change Calls Tryz.prog 40 _ _ _ at hcon
  rw [List.size_toArray, ← hn] at hcon
  refine hcon.mono ?_
  rintro e w' ⟨rfl, m, rfl⟩
  have hrl := row_laid (m := m) (os := #[]) sxF_len (by omega) h (ys := xs.reverse) (by simp)
  have eg : ∀ W : World, Sort.grow W #[] = W := fun W => by simp [Sort.grow]
  rw [eg] at hrl
  have er : xs.toArray.reverse = xs.reverse.toArray := by simp
  rw [er]
  exact ⟨rfl, hrl.1, hrl.2⟩

end Go.Proofs.YtcggkfpkkhjdhaaGreat

set_option linter.unusedSimpArgs false
namespace Go.Proofs.YtcggkfpkkhjdhaaGreat
open Go.RowKit Go.Shelf Go.Lib

/-! ### The marks on a path -/

theorem sort0_any (p : Option Addr) (cap : Nat) (w : World) : Calls Tryz.prog 81 #[.slice p 0 cap, .func (.func 82) #[] #[]] w fun e w' => e = .returned (.tuple #[]) ∧ w' = w := by
  have h := AnyF.slices_SortFunc_none { Tryz.laySort with } p cap (.func (.func 82) #[] #[]) w
  change Calls Tryz.prog 81 _ _ _ at h
  exact h
theorem mkX_snoc {n : Nt} {qs : List (Int × Int)} {d : Int} {x : Sx} {m : Nat} (h : m < qs.length) : mkX n (qs.take (m + 1)) d x = mkX n (qs.take m) d x ++ if qs[m].1 = x.step.piece ∧ x.low < beh n qs[m] x.step.way ∧ beh n qs[m] x.step.way ≤ x.high then [⟨d + beh n qs[m] x.step.way - x.low, (m : Int), x.step.way⟩] else [] := by
  unfold mkX
  rw [← List.take_append_getElem h, List.zipIdx_append, List.filterMap_append]
  congr 1
  rw [List.length_take, Nat.min_eq_left (Nat.le_of_lt h)]
  simp only [List.zipIdx_cons, List.zipIdx_nil, List.filterMap_cons, List.filterMap_nil, Nat.zero_add]
  split <;> simp_all
theorem mkX_len (n : Nt) (qs : List (Int × Int)) (d : Int) (x : Sx) : (mkX n qs d x).length ≤ qs.length := by
  unfold mkX
  refine Nat.le_trans (List.length_filterMap_le _ _) ?_
  simp
theorem marksI_len (n : Nt) (qs : List (Int × Int)) (P : List Sx) (d : Int) : (marksI n qs d P).length ≤ P.length * qs.length := by
  induction P generalizing d with
  | nil => simp [marksI]
  | cons x r ih =>
    have := ih (d + (x.high - x.low))
    have h2 := mkX_len n qs d x
    rw [marksI, List.length_append, List.length_cons, Nat.add_mul]
    omega
theorem lenS_nn {P : List Sx} (h : ∀ x ∈ P, LowHigh x) : 0 ≤ lenS P := by
  induction P with
  | nil => simp [lenS]
  | cons x r ih =>
    have := ih fun y hy => h y (List.mem_cons_of_mem _ hy)
    have := (h x List.mem_cons_self).2
    simp only [lenS]
    omega
theorem lenS_take {P : List Sx} (h : ∀ x ∈ P, LowHigh x) (k : Nat) : 0 ≤ lenS (P.take k) ∧ lenS (P.take k) ≤ lenS P := by
  have h1 := lenS_nn (P := P.take k) fun x hx => h x (List.mem_of_mem_take hx)
  have h2 := lenS_nn (P := P.drop k) fun x hx => h x (List.mem_of_mem_drop hx)
  have h3 := lenS_app (P.take k) (P.drop k)
  rw [List.take_append_drop] at h3
  omega
theorem mark_news {w : World} {N : Nat} {t : Mrk} (h : Boxed w N [.int .i64 t.far, .int .i64 t.post, .int .i64 t.way]) : ∀ j u, (mkF t)[j]? = some u → w.cell? ((⟨N, 0, none⟩ : Addr).add j) = some u := fun j u hu => by
  have hadd : (⟨N, 0, none⟩ : Addr).add j = ⟨N, j, none⟩ := by unfold Addr.add; split <;> simp_all
  rw [hadd]
  exact h.2.1 j u hu
theorem info_mark : (Tryz.prog.info? 167).map (fun i => (i.zero, i.size, i.bytes)) = some (some (.agg #[.int .i64 0, .int .i64 0, .int .i64 0]), 3, 24) := by kernel_rfl
theorem mkRow_at {w : World} {base : Nat} {v : Value} {ms : List Mrk} (h : MkRow w base v ms) : ∃ a cap, v = .slice a ms.length cap ∧ ms.length ≤ cap ∧ MksAt w a ms := by
  obtain ⟨a, cap, hv, hc, hx⟩ := h.shape mkF_len
  refine ⟨a, cap, hv, hc, fun i hi => ?_⟩
  obtain ⟨g, ha, hg, hj⟩ := hx i hi
  have e0 := hj 0 (by omega)
  have e1 := hj 1 (by omega)
  have e2 := hj 2 (by omega)
  simp only [mkF] at e0 e1 e2
  exact ⟨g, 0, ha, hg.2, by simpa using e0, by simpa using e1, by simpa using e2⟩
/-- The marks under way. -/
structure MoAt (w : World) (H X : Nat) (kl : List Value) (xl : List Value) (y : Value) (M : List Mrk) (wq : World) : Prop where
  row : MkRow wq (H + 1) y M
  box : Boxed wq H kl
  boxX : Boxed wq X xl
  own : y.ownBlock ≠ some X
  bel : Below w.heap.size w wq
theorem MoAt.below {w : World} {H X : Nat} {kl xl : List Value} {y : Value} {M : List Mrk} {wq w' : World} (h : MoAt w H X kl xl y M wq) (hb : Below wq.heap.size wq w') : MoAt w H X kl xl y M w' :=
  ⟨h.row.below hb, h.box.below hb, h.boxX.below hb, h.own, h.bel.trans (hb.mono h.bel.size)⟩
theorem MoAt.add {w : World} {H X : Nat} {kl xl : List Value} {y : Value} {M : List Mrk} {wq w' : World} (h : MoAt w H X kl xl y M wq) (hH : w.heap.size ≤ H) (hg : wq.grownBy w' y.ownBlock) {y' : Value} {M' : List Mrk} (hr : MkRow w' (H + 1) y' M') (hat : ∀ k, y'.ownBlock = some k → y.ownBlock = some k ∨ wq.heap.size ≤ k) : MoAt w H X kl xl y' M' w' := by
  have hlt := fun k hk => h.row.lt k hk
  refine ⟨hr, h.box.grownE hg (fun e => by have := (hlt _ e).1; omega), h.boxX.grownE hg h.own, fun e => ?_, ?_⟩
  · rcases hat _ e with e' | e'
    · exact h.own e'
    · have := h.boxX.1; omega
  · exact h.bel.trans ⟨hg.os, hg.tape, hg.output, hg.size, fun k hk => hg.block k (Nat.lt_of_lt_of_le hk h.bel.size) (fun e => by have := (hlt k e.symm).1; omega)⟩
set_option maxRecDepth 100000 in
set_option maxHeartbeats 8000000 in
theorem marksOn_any (kv : Value) (n : Nt) (pa : Option Addr) (pc : Nat) (P : List Sx) (qa : Option Addr) (qc : Nat) (qs : List (Int × Int)) (d : Int) (w : World) {L L1 L2 : Nat} (hk : TrkAt L w kv n) (hG : NetGood n) (hP : SxsAt L1 w pa P) (hok : ∀ x ∈ P, SxOk n x) (hlh : ∀ x ∈ P, LowHigh x) (hq : PoAt L2 w qa qs) (hpo : ∀ p ∈ qs, PostOk n p) (hpl : P.length ≤ 11000) (hql : qs.length ≤ 60) (hd : -200000 ≤ d ∧ d ≤ 0) (hln : d + lenS P ≤ 200000) :
    Calls Tryz.prog 42 #[kv, .slice pa P.length pc, .slice qa qs.length qc, .int .i64 d] w fun e w' => ∃ a cap M, e = .returned (.slice a M.length cap) ∧ MksAt w' a M ∧ M.length ≤ cap ∧ M.Perm (marksI n qs d P) ∧ (M.Pairwise fun x y => ¬ Mlt y x) ∧ M.length ≤ 660000 ∧ Below w.heap.size w w' := by
  have hkk := hk
  obtain ⟨ka, kca, sh, csh, st, cst, rfl, _⟩ := hk
  obtain ⟨i1, hj1, hy0, hy1, hy2⟩ := info_parts info_mark
  have HOK := hide hok
  have HLH := hide hlh
  have HPO := hide hpo
  have HPA := hide hP
  have HQA := hide hq
  have HKK := hide hkk
  clear hok hlh hpo hP hq hkk
  obtain ⟨H, hH⟩ : ∃ H, w.heap.size = H := ⟨_, rfl⟩
  have hHw : w.heap.size ≤ H ∧ H ≤ w.heap.size := by omega
  go_enter Tryz.func42, Tryz.ntmps42
  go_wp2_with fail
  go_loopw [3, 9, 17] (fun f y z wr => ∃ k : Nat, k ≤ P.length ∧ z = .int .i64 k ∧ f = .int .i64 (d + lenS (P.take k)) ∧ Hid (MkRow wr (H + 1) y (marksI n qs d (P.take k))) ∧ Boxed wr H [.slice ka n.pieces.length kca, .slice sh n.joints.length csh, .slice st n.pieces.length cst] ∧ Below w.heap.size w wr) (fun _ _ z _ => P.length - (intOf z).toNat)
  case atStart =>
    refine ⟨0, Nat.zero_le _, rfl, by simp [lenS], hide (Row.nil _ _ _ _ _), ?_, bw0⟩
    exact boxedN _ _ _ (by omega)
  case round =>
    obtain ⟨k, hk', rfl, rfl, HROW, hBk, hb⟩ := hrel
    rename World => wr
    have hsz := hb.size
    have HB := hide hb
    have hH1 := hBk.1
    have HBK := hide hBk
    have hls := lenS_take (unhide HLH) k
    by_cases hlt : k < P.length
    · have hlt' : (k : Int) < (P.length : Int) := by omega
      obtain ⟨sb, soff, rfl, hsb, s0, s1, s2, s3⟩ := (unhide HPA).below hb k hlt
      have hx := unhide HOK P[k] (List.getElem_mem hlt)
      have hxl := unhide HLH P[k] (List.getElem_mem hlt)
      have HT : Hid (P.take (k + 1) = P.take k ++ [P[k]]) := List.take_succ_eq_append_getElem hlt
      generalize hxk : P[k] = x at *
      obtain ⟨⟨xp, xy⟩, lo, hi⟩ := x
      have hsb2 := hsb.2
      dsimp only at s0 s1 s2 s3
      obtain ⟨hstep, hlo, hhi⟩ := hx
      have hxl2 := hxl.2
      dsimp only at hlo hhi hxl2
      have HST := hide hstep
      obtain ⟨dk, hdk⟩ : ∃ dk, d + lenS (P.take k) = dk := ⟨_, rfl⟩
      have hdkb : -200000 ≤ dk ∧ dk ≤ 200000 := by omega
      have HDK := hide hdk
      rw [hdk]
      have hls' := lenS_take (unhide HLH) (k + 1)
      rw [unhide HT, lenS_app] at hls'
      simp only [lenS] at hls'
      have hdk2 : dk + (hi - lo) ≤ 200000 := by omega
      have HMI0 := marksI_len n qs (P.take k) d
      have hmi : (marksI n qs d (P.take k)).length ≤ 660000 := by
        refine Nat.le_trans HMI0 (Nat.le_trans (Nat.mul_le_mul (show (P.take k).length ≤ 11000 by rw [List.length_take]; omega) hql) (by omega))
      have hbA : Below wr.heap.size wr (wr.alloc (.cells #[.int .i64 xp, .int .i64 xy, .int .i64 lo, .int .i64 hi] 103)) := bw0
      have HM0 : Hid (∀ y, MkRow wr (H + 1) y (marksI n qs d (P.take k)) → MoAt w H wr.heap.size [.slice ka n.pieces.length kca, .slice sh n.joints.length csh, .slice st n.pieces.length cst] [.int .i64 xp, .int .i64 xy, .int .i64 lo, .int .i64 hi] y (marksI n qs d (P.take k)) (wr.alloc (.cells #[.int .i64 xp, .int .i64 xy, .int .i64 lo, .int .i64 hi] 103))) := fun y hy => ⟨hy.below hbA, hBk.below hbA, boxed_alloc _ _ _, fun e => by have := (hy.lt _ e).2; omega, below_then hb hbA⟩
      clear hxk hb hBk hdk hls hls' HMI0 hbA hstep hxl
      go_wp2_with fail
      go_loopw [9, 23] (fun y z wq => ∃ m : Nat, m ≤ qs.length ∧ z = .int .i64 m ∧ Hid (MoAt w H wr.heap.size [.slice ka n.pieces.length kca, .slice sh n.joints.length csh, .slice st n.pieces.length cst] [.int .i64 xp, .int .i64 xy, .int .i64 lo, .int .i64 hi] y (marksI n qs d (P.take k) ++ mkX n (qs.take m) dk ⟨⟨xp, xy⟩, lo, hi⟩) wq)) (fun _ z _ => qs.length - (intOf z).toNat)
      case atStart =>
        refine ⟨0, Nat.zero_le _, rfl, ?_⟩
        have := unhide HM0 _ (unhide HROW)
        refine hide ?_
        simpa [mkX] using this
      case round =>
        clear HM0 s0 s1 s2 s3
        obtain ⟨m, hm, rfl, HMO⟩ := hrel
        rename World => wq
        have hbq := (unhide HMO).bel
        have hszq := hbq.size
        have hX := (unhide HMO).boxX
        have x0 := hX.2.1 0 _ rfl
        have x1 := hX.2.1 1 _ rfl
        have x2 := hX.2.1 2 _ rfl
        have x3 := hX.2.1 3 _ rfl
        have xl := hX.1
        have hK := (unhide HMO).box
        have k0 := hK.2.1 0 _ rfl
        have k1 := hK.2.1 1 _ rfl
        have k2 := hK.2.1 2 _ rfl
        have kl := hK.1
        clear hX hK
        obtain ⟨ya, yc, hye, _, _⟩ := (unhide HMO).row.shape mkF_len
        obtain ⟨MM, hMM⟩ : ∃ MM, marksI n qs d (P.take k) ++ mkX n (qs.take m) dk ⟨⟨xp, xy⟩, lo, hi⟩ = MM := ⟨_, rfl⟩
        have hMl : MM.length ≤ 661000 := by
          have := mkX_len n (qs.take m) dk ⟨⟨xp, xy⟩, lo, hi⟩
          rw [List.length_take] at this
          rw [← hMM, List.length_append]
          omega
        rw [hMM] at hye HMO
        have HMM := hide hMM
        subst hye
        clear hMM
        by_cases hlt2 : m < qs.length
        · have hlt2' : (m : Int) < (qs.length : Int) := by omega
          obtain ⟨qb, qoff, rfl, hqb, q0, q1⟩ := (unhide HQA).below hbq m hlt2
          have hqb2 := hqb.2
          have hpm := unhide HPO qs[m] (List.getElem_mem hlt2)
          have hSN := mkX_snoc (n := n) (d := dk) (x := ⟨⟨xp, xy⟩, lo, hi⟩) hlt2
          dsimp only at hSN
          generalize hqm : qs[m] = q at *
          obtain ⟨qp, qx⟩ := q
          dsimp only at q0 q1 hSN
          have HNX : Hid (marksI n qs d (P.take k) ++ mkX n (qs.take (m + 1)) dk ⟨⟨xp, xy⟩, lo, hi⟩ = MM ++ if qp = xp ∧ lo < beh n (qp, qx) xy ∧ beh n (qp, qx) xy ≤ hi then [⟨dk + beh n (qp, qx) xy - lo, (m : Int), xy⟩] else []) := by
            unfold Hid
            rw [hSN, ← List.append_assoc, unhide HMM]
          clear hSN hqm
          by_cases hpe : qp = xp
          · subst hpe
            have hbh := beh_in hpm xy
            have hlq := (unhide HMO)
            have HCL : Hid (∀ W, Below wq.heap.size wq W → Calls Tryz.prog 75 #[.agg #[.slice ka n.pieces.length kca, .slice sh n.joints.length csh, .slice st n.pieces.length cst], .agg #[.int .i64 qp, .int .i64 qx, .int .i64 xy]] W fun e w' => e = .returned (.int .i64 (beh n (qp, qx) xy)) ∧ Below W.heap.size W w') := fun W hW =>
              kbehind_any _ n ⟨qp, qx, xy⟩ W ((unhide HKK).below (below_then hbq hW)) ⟨hpm.1, (unhide HST).2, by have := hpm.2.1; dsimp only at this ⊢; omega, by have := hpm.2.2; dsimp only at this ⊢; omega⟩ (hG.len hpm.1.1 hpm.1.2).2
            have hll := (hG.len hpm.1.1 hpm.1.2).2
            dsimp only at hbh hll
            obtain ⟨bh, hbe⟩ : ∃ bh, beh n (qp, qx) xy = bh := ⟨_, rfl⟩
            rw [hbe] at HNX HCL hbh
            clear hlq hbe
            go_wp2_with fail
            refine (unhide HCL _ bw0).mono ?_
            rintro e w2 ⟨rfl, hb2⟩
            have hbQ2 : Below wq.heap.size wq w2 := below_then bw0 hb2
            have HMO2 := hide ((unhide HMO).below hbQ2)
            have hs2 := hbQ2.size
            clear x0 x1 x2 x3 xl k0 k1 k2 kl q0 q1 HCL HMO hb2 hbQ2 hbq
            have hX := (unhide HMO2).boxX
            have x0 := hX.2.1 0 _ rfl
            have x1 := hX.2.1 1 _ rfl
            have x2 := hX.2.1 2 _ rfl
            have x3 := hX.2.1 3 _ rfl
            have xl := hX.1
            clear hX
            by_cases hgt : lo < bh
            · by_cases hle : bh ≤ hi
              · have HNX2 : Hid (marksI n qs d (P.take k) ++ mkX n (qs.take (m + 1)) dk ⟨⟨qp, xy⟩, lo, hi⟩ = MM ++ [⟨dk + bh - lo, (m : Int), xy⟩]) := by
                  unfold Hid
                  rw [unhide HNX, if_pos ⟨by trivial, hgt, hle⟩]
                have hw1 : IntKind.i64.wrap (dk + bh) = dk + bh := wrap_small (by omega) (by omega)
                have hw2 : IntKind.i64.wrap (dk + bh - lo) = dk + bh - lo := wrap_small (by omega) (by omega)
                go_wp2_with (at_builtin; refine wpList_append_lies _ rfl (.tmp 54) (.tmp 66) 110 rfl (H + 1) 167 i1 (.agg #[.int .i64 0, .int .i64 0, .int .i64 0]) 3 24 Tryz.underlying110 hj1 hy0 hy1 hy2 rfl (by decide) _ _ _ rfl ((unhide HMO2).row.below bw0) ⟨w2.heap.size, 0, none⟩ 1 1 (mkF ⟨dk + bh - lo, (m : Int), xy⟩) rfl rfl ?c1 (mk_one _) (by omega) ?c2 ?c3 ?c4 _ rfl ?_)
                case c1 => exact mark_news (t := ⟨dk + bh - lo, (m : Int), xy⟩) (boxedN _ _ _ (by simp))
                case c2 => unfold maxLen; omega
                case c3 => omega
                case c4 => (first | omega | (simp; omega))
                intro g gcap w5 hown hgrow hat hlt5
                have hbA : Below w2.heap.size w2 (w2.alloc (.cells #[.int .i64 (dk + bh - lo), .int .i64 m, .int .i64 xy] 167)) := bw0
                have hrow5 : MkRow w5 (H + 1) (.slice (some ⟨g, 0, none⟩) (MM.length + 1) gcap) (MM ++ [⟨dk + bh - lo, (m : Int), xy⟩]) := Row.snoc (f := mkF) hown
                have HM5 := hide (((unhide HMO2).below hbA).add hHw.1 hgrow hrow5 (fun k hk => by
                  simp [Value.ownBlock] at hk
                  subst hk
                  rcases hat with h | h
                  · exact Or.inl h
                  · exact Or.inr (by simp; omega)))
                clear hown hgrow hat hbA hrow5 x0 x1 x2 x3 xl
                go_wp2_with fail
                refine ⟨⟨m + 1, by omega, by go_num, ?_⟩, by simp [intOf]; omega⟩
                rw [unhide HNX2]
                exact HM5
              · have HNX2 : Hid (marksI n qs d (P.take k) ++ mkX n (qs.take (m + 1)) dk ⟨⟨qp, xy⟩, lo, hi⟩ = MM) := by
                  unfold Hid
                  rw [unhide HNX, if_neg (fun h => hle h.2.2), List.append_nil]
                go_wp2
                refine ⟨⟨m + 1, by omega, by go_num, ?_⟩, by simp [intOf]; omega⟩
                rw [unhide HNX2]
                exact HMO2
            · have HNX2 : Hid (marksI n qs d (P.take k) ++ mkX n (qs.take (m + 1)) dk ⟨⟨qp, xy⟩, lo, hi⟩ = MM) := by
                unfold Hid
                rw [unhide HNX, if_neg (fun h => hgt h.2.1), List.append_nil]
              go_wp2
              refine ⟨⟨m + 1, by omega, by go_num, ?_⟩, by simp [intOf]; omega⟩
              rw [unhide HNX2]
              exact HMO2
          · have hpb := ne_beq hpe
            have HNX2 : Hid (marksI n qs d (P.take k) ++ mkX n (qs.take (m + 1)) dk ⟨⟨xp, xy⟩, lo, hi⟩ = MM) := by
              unfold Hid
              rw [unhide HNX, if_neg (fun h => hpe h.1), List.append_nil]
            clear hpe
            go_wp2
            refine ⟨⟨m + 1, by omega, by go_num, ?_⟩, by simp [intOf]; omega⟩
            rw [unhide HNX2]
            exact hide ((unhide HMO).below bw0)
        · have hmq : m = qs.length := by omega
          have hw1 : IntKind.i64.wrap (hi - lo) = hi - lo := wrap_small (by omega) (by omega)
          have hw2 : IntKind.i64.wrap (dk + (hi - lo)) = dk + (hi - lo) := wrap_small (by omega) (by omega)
          have HE : Hid (marksI n qs d (P.take (k + 1)) = MM) := by
            unfold Hid
            rw [unhide HT, marksI_app, unhide HDK, ← unhide HMM, hmq, List.take_length]
            simp [marksI]
          have HE2 : Hid (d + lenS (P.take (k + 1)) = dk + (hi - lo)) := by
            unfold Hid
            rw [unhide HT, lenS_app, ← unhide HDK]
            simp only [lenS]
            omega
          clear hmq
          go_wp2
          refine ⟨⟨k + 1, by omega, by go_num, by rw [unhide HE2], ?_, (unhide HMO).box, hbq⟩, by simp [intOf]; omega⟩
          rw [unhide HE]
          exact hide (unhide HMO).row
    · have hkl : k = P.length := by omega
      obtain ⟨ya, yc, hye, _, _⟩ := (unhide HROW).shape mkF_len
      have HMI0 := marksI_len n qs P d
      have hmi : (marksI n qs d P).length ≤ 660000 := Nat.le_trans HMI0 (Nat.le_trans (Nat.mul_le_mul hpl hql) (by omega))
      rw [hkl, List.take_length] at HROW hye
      obtain ⟨MM, hMM⟩ : ∃ MM, marksI n qs d P = MM := ⟨_, rfl⟩
      rw [hMM] at HROW hye hmi
      have HMM := hide hMM
      subst hye
      clear hMM HMI0
      cases MM with
      | nil =>
        go_wp2_with fail
        refine (sort0_any _ _ _).mono ?_
        rintro e w2 ⟨rfl, rfl⟩
        go_wp2_with fail
        go_ret
        exact ⟨ya, yc, [], rfl, fun i hi => absurd hi (Nat.not_lt_zero _), Nat.zero_le _, by rw [unhide HMM], List.Pairwise.nil, Nat.zero_le _, unhide HB⟩
      | cons m0 r0 =>
        have hpos : 0 < (m0 :: r0).length := by simp
        obtain ⟨MM, hMM⟩ : ∃ MM, m0 :: r0 = MM := ⟨_, rfl⟩
        rw [hMM] at HROW HMM hmi hpos ⊢
        clear hMM
        obtain ⟨g, rfl⟩ : ∃ g, ya = some ⟨g, 0, none⟩ := by
          obtain ⟨a, cap, hv, hc, hx⟩ := (unhide HROW).shape mkF_len
          obtain ⟨g, ha, _⟩ := hx 0 hpos
          simp only [Value.slice.injEq] at hv
          exact ⟨g, hv.1.trans ha⟩
        have hgl := (unhide HROW).lt g rfl
        have hgc : MM.length ≤ yc := by
          obtain ⟨a, cap, hv, hc, hx⟩ := (unhide HROW).shape mkF_len
          simp only [Value.slice.injEq] at hv
          omega
        go_wp2_with fail
        refine (sortM_any g MM.length yc (H + 1) MM wr (unhide HROW) rfl (by omega)).mono ?_
        rintro e w2 ⟨rfl, M2, hpm, hps, hr2, hT⟩
        have hl2 : M2.length = MM.length := hpm.length_eq
        have hbb : Below w.heap.size w w2 := (unhide HB).trans ⟨hT.os, hT.tape, hT.output, hT.size, fun k hk => hT.block k (Nat.lt_of_lt_of_le hk (unhide HB).size) (by omega) (by simp [Value.ownBlock])⟩
        have HF : Hid (∃ a cap M, Value.slice (some ⟨g, 0, none⟩) MM.length yc = .slice a M.length cap ∧ MksAt w2 a M ∧ M.length ≤ cap ∧ M.Perm (marksI n qs d P) ∧ (M.Pairwise fun x y => ¬ Mlt y x) ∧ M.length ≤ 660000 ∧ Below w.heap.size w w2) := by
          obtain ⟨a, cap, hv, hc, hx⟩ := mkRow_at hr2
          refine ⟨a, cap, M2, by rw [← hl2] at hv ⊢; exact hv, hx, hc, ?_, hps, by omega, hbb⟩
          rw [unhide HMM]
          exact hpm
        clear hpm hps hr2 hT hbb
        go_wp2_with fail
        go_ret
        obtain ⟨a, cap, M, e, h⟩ := unhide HF
        exact ⟨a, cap, M, by rw [e]; rfl, h⟩
end Go.Proofs.YtcggkfpkkhjdhaaGreat

