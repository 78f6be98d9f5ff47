import Derived.Test.YtjacbppeebnjfaaGreatMGen
import Derived.Test.YtjacbppeebnjfaaGreatMPw7
import Derived.Test.YtjacbppeebnjfaaGreatMReadBy
import Derived.Shelf.SlSortCmp.NoneTotal
import Derived.Test.YtjacbppeebnjfaaGreatMPlain
import Derived.Deep.AppendLies
import Derived.Laws.OwnMore
import Derived.Lib.AppendZeros
set_option linter.unusedSimpArgs false
namespace Go.Proofs.YtjacbppeebnjfaaGreat
open Go.RowKit Go.Shelf Go.Lib

theorem sort0_any (p : Option Addr) (cap : Nat) (w : World) : Calls Tryz.prog 50 #[.slice p 0 cap, .func (.func 51) #[] #[]] w fun e w' => e = .returned (.tuple #[]) ∧ w' = w := by
 have h := AnyF.slices_SortFunc_none { Tryz.laySort with } p cap (.func (.func 51) #[] #[]) w
 change Calls Tryz.prog 50 _ _ _ at h
 exact h
theorem mkX_snoc {n : Nt} {qs : List (Int × Int)} {d : Int} {x : Sx} {m : Nat} (h : m < qs.length) : mkX n (qs.take (m + 1)) d x = mkX n (qs.take m) d x ++ if qs[m].1 = x.step.piece ∧ x.low < beh n qs[m] x.step.way ∧ beh n qs[m] x.step.way ≤ x.high then [⟨d + beh n qs[m] x.step.way - x.low, (m : Int), x.step.way⟩] else [] := by
 unfold mkX
 rw [← List.take_append_getElem h, List.zipIdx_append, List.filterMap_append]
 congr 1
 rw [List.length_take, Nat.min_eq_left (Nat.le_of_lt h)]
 simp only [List.zipIdx_cons, List.zipIdx_nil, List.filterMap_cons, List.filterMap_nil, Nat.zero_add]
 split <;> simp_all
theorem mkX_len (n : Nt) (qs : List (Int × Int)) (d : Int) (x : Sx) : (mkX n qs d x).length ≤ qs.length := by
 unfold mkX
 refine Nat.le_trans (List.length_filterMap_le _ _) ?_
 simp
theorem marksI_len (n : Nt) (qs : List (Int × Int)) (P : List Sx) (d : Int) : (marksI n qs d P).length ≤ P.length * qs.length := by
 induction P generalizing d with
 | nil => simp [marksI]
 | cons x r ih =>
  have := ih (d + (x.high - x.low))
  have h2 := mkX_len n qs d x
  rw [marksI, List.length_append, List.length_cons, Nat.add_mul]
  omega
theorem lenS_nn {P : List Sx} (h : ∀ x ∈ P, LowHigh x) : 0 ≤ lenS P := by
 induction P with
 | nil => simp [lenS]
 | cons x r ih =>
  have := ih fun y hy => h y (List.mem_cons_of_mem _ hy)
  have := (h x List.mem_cons_self).2
  simp only [lenS]
  omega
theorem lenS_take {P : List Sx} (h : ∀ x ∈ P, LowHigh x) (k : Nat) : 0 ≤ lenS (P.take k) ∧ lenS (P.take k) ≤ lenS P := by
 have h1 := lenS_nn (P := P.take k) fun x hx => h x (List.mem_of_mem_take hx)
 have h2 := lenS_nn (P := P.drop k) fun x hx => h x (List.mem_of_mem_drop hx)
 have h3 := lenS_app (P.take k) (P.drop k)
 rw [List.take_append_drop] at h3
 omega
theorem mark_news {w : World} {N : Nat} {t : Mrk} (h : Boxed w N [.int .i64 t.far, .int .i64 t.post, .int .i64 t.way]) : ∀ j u, (mkF t)[j]? = some u → w.cell? ((⟨N, 0, none⟩ : Addr).add j) = some u := fun j u hu => by
 have hadd : (⟨N, 0, none⟩ : Addr).add j = ⟨N, j, none⟩ := by unfold Addr.add; split <;> simp_all
 rw [hadd]
 exact h.2.1 j u hu
theorem info_mark : (Tryz.prog.info? 121).map (fun i => (i.zero, i.size, i.bytes)) = some (some (.agg #[.int .i64 0, .int .i64 0, .int .i64 0]), 3, 24) := by kernel_rfl
theorem mkRow_at {w : World} {base : Nat} {v : Value} {ms : List Mrk} (h : MkRow w base v ms) : ∃ a cap, v = .slice a ms.length cap ∧ ms.length ≤ cap ∧ MksAt w a ms := by
 obtain ⟨a, cap, hv, hc, hx⟩ := h.shape mkF_len
 refine ⟨a, cap, hv, hc, fun i hi => ?_⟩
 obtain ⟨g, ha, hg, hj⟩ := hx i hi
 have e0 := hj 0 (by omega)
 have e1 := hj 1 (by omega)
 have e2 := hj 2 (by omega)
 simp only [mkF] at e0 e1 e2
 exact ⟨g, 0, ha, hg.2, by simpa using e0, by simpa using e1, by simpa using e2⟩
structure MoAt (w : World) (H X : Nat) (kl : List Value) (xl : List Value) (y : Value) (M : List Mrk) (wq : World) : Prop where
 row : MkRow wq (H + 1) y M
 box : Boxed wq H kl
 boxX : Boxed wq X xl
 own : y.ownBlock ≠ some X
 bel : Below w.heap.size w wq
theorem MoAt.below {w : World} {H X : Nat} {kl xl : List Value} {y : Value} {M : List Mrk} {wq w' : World} (h : MoAt w H X kl xl y M wq) (hb : Below wq.heap.size wq w') : MoAt w H X kl xl y M w' :=
 ⟨h.row.below hb, h.box.below hb, h.boxX.below hb, h.own, h.bel.trans (hb.mono h.bel.size)⟩
theorem MoAt.add {w : World} {H X : Nat} {kl xl : List Value} {y : Value} {M : List Mrk} {wq w' : World} (h : MoAt w H X kl xl y M wq) (hH : w.heap.size ≤ H) (hg : wq.grownBy w' y.ownBlock) {y' : Value} {M' : List Mrk} (hr : MkRow w' (H + 1) y' M') (hat : ∀ k, y'.ownBlock = some k → y.ownBlock = some k ∨ wq.heap.size ≤ k) : MoAt w H X kl xl y' M' w' := by
 have hlt := fun k hk => h.row.lt k hk
 refine ⟨hr, h.box.grownE hg (fun e => by have := (hlt _ e).1; omega), h.boxX.grownE hg h.own, fun e => ?_, ?_⟩
 ·rcases hat _ e with e' | e'
  ·exact h.own e'
  ·have := h.boxX.1; omega
 ·exact h.bel.trans ⟨hg.os, hg.tape, hg.output, hg.size, fun k hk => hg.block k (Nat.lt_of_lt_of_le hk h.bel.size) (fun e => by have := (hlt k e.symm).1; omega)⟩
set_option maxRecDepth 100000 in
set_option maxHeartbeats 8000000 in
theorem marksOn_any (kv : Value) (n : Nt) (pa : Option Addr) (pc : Nat) (P : List Sx) (qa : Option Addr) (qc : Nat) (qs : List (Int × Int)) (d : Int) (w : World) {L L1 L2 : Nat} (hk : TrkAt L w kv n) (hG : NetGood n) (hP : SxsAt L1 w pa P) (hok : ∀ x ∈ P, SxOk n x) (hlh : ∀ x ∈ P, LowHigh x) (hq : PoAt L2 w qa qs) (hpo : ∀ p ∈ qs, PostOk n p) (hpl : P.length ≤ 11000) (hql : qs.length ≤ 60) (hd : -200000 ≤ d ∧ d ≤ 0) (hln : d + lenS P ≤ 200000) :
  Calls Tryz.prog 23 #[kv, .slice pa P.length pc, .slice qa qs.length qc, .int .i64 d] w fun e w' => ∃ a cap M, e = .returned (.slice a M.length cap) ∧ MksAt w' a M ∧ M.length ≤ cap ∧ M.Perm (marksI n qs d P) ∧ (M.Pairwise fun x y => ¬ Mlt y x) ∧ M.length ≤ 660000 ∧ Below w.heap.size w w' := by
 have hkk := hk
 obtain ⟨ka, kca, sh, csh, st, cst, rfl, _⟩ := hk
 obtain ⟨i1, hj1, hy0, hy1, hy2⟩ := info_parts info_mark
 have HOK := hide hok
 have HLH := hide hlh
 have HPO := hide hpo
 have HPA := hide hP
 have HQA := hide hq
 have HKK := hide hkk
 clear hok hlh hpo hP hq hkk
 obtain ⟨H, hH⟩ : ∃ H, w.heap.size = H := ⟨_, rfl⟩
 have hHw : w.heap.size ≤ H ∧ H ≤ w.heap.size := by omega
 go_enter Tryz.func23, Tryz.ntmps23
 go_wp2_with fail
 go_loopw [3, 9, 17] (fun f y z wr => ∃ k : Nat, k ≤ P.length ∧ z = .int .i64 k ∧ f = .int .i64 (d + lenS (P.take k)) ∧ Hid (MkRow wr (H + 1) y (marksI n qs d (P.take k))) ∧ Boxed wr H [.slice ka n.pieces.length kca, .slice sh n.joints.length csh, .slice st n.pieces.length cst] ∧ Below w.heap.size w wr) (fun _ _ z _ => P.length - (intOf z).toNat)
 case atStart =>
  refine ⟨0, Nat.zero_le _, rfl, by simp [lenS], hide (Row.nil _ _ _ _ _), ?_, bw0⟩
  exact boxedN _ _ _ (by omega)
 case round =>
  obtain ⟨k, hk', rfl, rfl, HROW, hBk, hb⟩ := hrel
  rename World => wr
  have hsz := hb.size
  have HB := hide hb
  have hH1 := hBk.1
  have HBK := hide hBk
  have hls := lenS_take (unhide HLH) k
  by_cases hlt : k < P.length
  ·have hlt' : (k : Int) < (P.length : Int) := by omega
   obtain ⟨sb, soff, rfl, hsb, s0, s1, s2, s3⟩ := (unhide HPA).below hb k hlt
   have hx := unhide HOK P[k] (List.getElem_mem hlt)
   have hxl := unhide HLH P[k] (List.getElem_mem hlt)
   have HT : Hid (P.take (k + 1) = P.take k ++ [P[k]]) := List.take_succ_eq_append_getElem hlt
   generalize hxk : P[k] = x at *
   obtain ⟨⟨xp, xy⟩, lo, hi⟩ := x
   have hsb2 := hsb.2
   dsimp only at s0 s1 s2 s3
   obtain ⟨hstep, hlo, hhi⟩ := hx
   have hxl2 := hxl.2
   dsimp only at hlo hhi hxl2
   have HST := hide hstep
   obtain ⟨dk, hdk⟩ : ∃ dk, d + lenS (P.take k) = dk := ⟨_, rfl⟩
   have hdkb : -200000 ≤ dk ∧ dk ≤ 200000 := by omega
   have HDK := hide hdk
   rw [hdk]
   have hls' := lenS_take (unhide HLH) (k + 1)
   rw [unhide HT, lenS_app] at hls'
   simp only [lenS] at hls'
   have hdk2 : dk + (hi - lo) ≤ 200000 := by omega
   have HMI0 := marksI_len n qs (P.take k) d
   have hmi : (marksI n qs d (P.take k)).length ≤ 660000 := by
    refine Nat.le_trans HMI0 (Nat.le_trans (Nat.mul_le_mul (show (P.take k).length ≤ 11000 by rw [List.length_take]; omega) hql) (by omega))
   have hbA : Below wr.heap.size wr (wr.alloc (.cells #[.int .i64 xp, .int .i64 xy, .int .i64 lo, .int .i64 hi] 81)) := bw0
   have HM0 : Hid (∀ y, MkRow wr (H + 1) y (marksI n qs d (P.take k)) → MoAt w H wr.heap.size [.slice ka n.pieces.length kca, .slice sh n.joints.length csh, .slice st n.pieces.length cst] [.int .i64 xp, .int .i64 xy, .int .i64 lo, .int .i64 hi] y (marksI n qs d (P.take k)) (wr.alloc (.cells #[.int .i64 xp, .int .i64 xy, .int .i64 lo, .int .i64 hi] 81))) := fun y hy => ⟨hy.below hbA, hBk.below hbA, boxed_alloc _ _ _, fun e => by have := (hy.lt _ e).2; omega, below_then hb hbA⟩
   clear hxk hb hBk hdk hls hls' HMI0 hbA hstep hxl
   go_wp2_with fail
   go_loopw [9, 23] (fun y z wq => ∃ m : Nat, m ≤ qs.length ∧ z = .int .i64 m ∧ Hid (MoAt w H wr.heap.size [.slice ka n.pieces.length kca, .slice sh n.joints.length csh, .slice st n.pieces.length cst] [.int .i64 xp, .int .i64 xy, .int .i64 lo, .int .i64 hi] y (marksI n qs d (P.take k) ++ mkX n (qs.take m) dk ⟨⟨xp, xy⟩, lo, hi⟩) wq)) (fun _ z _ => qs.length - (intOf z).toNat)
   case atStart =>
    refine ⟨0, Nat.zero_le _, rfl, ?_⟩
    have := unhide HM0 _ (unhide HROW)
    refine hide ?_
    simpa [mkX] using this
   case round =>
    clear HM0 s0 s1 s2 s3
    obtain ⟨m, hm, rfl, HMO⟩ := hrel
    rename World => wq
    have hbq := (unhide HMO).bel
    have hszq := hbq.size
    have hX := (unhide HMO).boxX
    have x0 := hX.2.1 0 _ rfl
    have x1 := hX.2.1 1 _ rfl
    have x2 := hX.2.1 2 _ rfl
    have x3 := hX.2.1 3 _ rfl
    have xl := hX.1
    have hK := (unhide HMO).box
    have k0 := hK.2.1 0 _ rfl
    have k1 := hK.2.1 1 _ rfl
    have k2 := hK.2.1 2 _ rfl
    have kl := hK.1
    clear hX hK
    obtain ⟨ya, yc, hye, _, _⟩ := (unhide HMO).row.shape mkF_len
    obtain ⟨MM, hMM⟩ : ∃ MM, marksI n qs d (P.take k) ++ mkX n (qs.take m) dk ⟨⟨xp, xy⟩, lo, hi⟩ = MM := ⟨_, rfl⟩
    have hMl : MM.length ≤ 661000 := by
     have := mkX_len n (qs.take m) dk ⟨⟨xp, xy⟩, lo, hi⟩
     rw [List.length_take] at this
     rw [← hMM, List.length_append]
     omega
    rw [hMM] at hye HMO
    have HMM := hide hMM
    subst hye
    clear hMM
    by_cases hlt2 : m < qs.length
    ·have hlt2' : (m : Int) < (qs.length : Int) := by omega
     obtain ⟨qb, qoff, rfl, hqb, q0, q1⟩ := (unhide HQA).below hbq m hlt2
     have hqb2 := hqb.2
     have hpm := unhide HPO qs[m] (List.getElem_mem hlt2)
     have hSN := mkX_snoc (n := n) (d := dk) (x := ⟨⟨xp, xy⟩, lo, hi⟩) hlt2
     dsimp only at hSN
     generalize hqm : qs[m] = q at *
     obtain ⟨qp, qx⟩ := q
     dsimp only at q0 q1 hSN
     have HNX : Hid (marksI n qs d (P.take k) ++ mkX n (qs.take (m + 1)) dk ⟨⟨xp, xy⟩, lo, hi⟩ = MM ++ if qp = xp ∧ lo < beh n (qp, qx) xy ∧ beh n (qp, qx) xy ≤ hi then [⟨dk + beh n (qp, qx) xy - lo, (m : Int), xy⟩] else []) := by
      unfold Hid
      rw [hSN, ← List.append_assoc, unhide HMM]
     clear hSN hqm
     by_cases hpe : qp = xp
     ·subst hpe
      have hbh := beh_in hpm xy
      have hlq := (unhide HMO)
      have HCL : Hid (∀ W, Below wq.heap.size wq W → Calls Tryz.prog 44 #[.agg #[.slice ka n.pieces.length kca, .slice sh n.joints.length csh, .slice st n.pieces.length cst], .agg #[.int .i64 qp, .int .i64 qx, .int .i64 xy]] W fun e w' => e = .returned (.int .i64 (beh n (qp, qx) xy)) ∧ Below W.heap.size W w') := fun W hW =>
       kbehind_any _ n ⟨qp, qx, xy⟩ W ((unhide HKK).below (below_then hbq hW)) ⟨hpm.1, (unhide HST).2, by have := hpm.2.1; dsimp only at this ⊢; omega, by have := hpm.2.2; dsimp only at this ⊢; omega⟩ (hG.len hpm.1.1 hpm.1.2).2
      have hll := (hG.len hpm.1.1 hpm.1.2).2
      dsimp only at hbh hll
      obtain ⟨bh, hbe⟩ : ∃ bh, beh n (qp, qx) xy = bh := ⟨_, rfl⟩
      rw [hbe] at HNX HCL hbh
      clear hlq hbe
      go_wp2_with fail
      refine (unhide HCL _ bw0).mono ?_
      rintro e w2 ⟨rfl, hb2⟩
      have hbQ2 : Below wq.heap.size wq w2 := below_then bw0 hb2
      have HMO2 := hide ((unhide HMO).below hbQ2)
      have hs2 := hbQ2.size
      clear x0 x1 x2 x3 xl k0 k1 k2 kl q0 q1 HCL HMO hb2 hbQ2 hbq
      have hX := (unhide HMO2).boxX
      have x0 := hX.2.1 0 _ rfl
      have x1 := hX.2.1 1 _ rfl
      have x2 := hX.2.1 2 _ rfl
      have x3 := hX.2.1 3 _ rfl
      have xl := hX.1
      clear hX
      by_cases hgt : lo < bh
      ·by_cases hle : bh ≤ hi
       ·have HNX2 : Hid (marksI n qs d (P.take k) ++ mkX n (qs.take (m + 1)) dk ⟨⟨qp, xy⟩, lo, hi⟩ = MM ++ [⟨dk + bh - lo, (m : Int), xy⟩]) := by
         unfold Hid
         rw [unhide HNX, if_pos ⟨by trivial, hgt, hle⟩]
        have hw1 : IntKind.i64.wrap (dk + bh) = dk + bh := wrap_small (by omega) (by omega)
        have hw2 : IntKind.i64.wrap (dk + bh - lo) = dk + bh - lo := wrap_small (by omega) (by omega)
        go_wp2_with (at_builtin; refine wpList_append_lies _ rfl (.tmp 54) (.tmp 66) 88 rfl (H + 1) 121 i1 (.agg #[.int .i64 0, .int .i64 0, .int .i64 0]) 3 24 Tryz.underlying88 hj1 hy0 hy1 hy2 rfl (by decide) _ _ _ rfl ((unhide HMO2).row.below bw0) ⟨w2.heap.size, 0, none⟩ 1 1 (mkF ⟨dk + bh - lo, (m : Int), xy⟩) rfl rfl ?c1 (mk_one _) (by omega) ?c2 ?c3 ?c4 _ rfl ?_)
        case c1 => exact mark_news (t := ⟨dk + bh - lo, (m : Int), xy⟩) (boxedN _ _ _ (by simp))
        case c2 => unfold maxLen; omega
        case c3 => omega
        case c4 => (first | omega | (simp; omega))
        intro g gcap w5 hown hgrow hat hlt5
        have hbA : Below w2.heap.size w2 (w2.alloc (.cells #[.int .i64 (dk + bh - lo), .int .i64 m, .int .i64 xy] 121)) := bw0
        have hrow5 : MkRow w5 (H + 1) (.slice (some ⟨g, 0, none⟩) (MM.length + 1) gcap) (MM ++ [⟨dk + bh - lo, (m : Int), xy⟩]) := Row.snoc (f := mkF) hown
        have HM5 := hide (((unhide HMO2).below hbA).add hHw.1 hgrow hrow5 (fun k hk => by
         simp [Value.ownBlock] at hk
         subst hk
         rcases hat with h | h
         ·exact Or.inl h
         ·exact Or.inr (by simp; omega)))
        clear hown hgrow hat hbA hrow5 x0 x1 x2 x3 xl
        go_wp2_with fail
        refine ⟨⟨m + 1, by omega, by go_num, ?_⟩, by simp [intOf]; omega⟩
        rw [unhide HNX2]
        exact HM5
       ·have HNX2 : Hid (marksI n qs d (P.take k) ++ mkX n (qs.take (m + 1)) dk ⟨⟨qp, xy⟩, lo, hi⟩ = MM) := by
         unfold Hid
         rw [unhide HNX, if_neg (fun h => hle h.2.2), List.append_nil]
        go_wp2
        refine ⟨⟨m + 1, by omega, by go_num, ?_⟩, by simp [intOf]; omega⟩
        rw [unhide HNX2]
        exact HMO2
      ·have HNX2 : Hid (marksI n qs d (P.take k) ++ mkX n (qs.take (m + 1)) dk ⟨⟨qp, xy⟩, lo, hi⟩ = MM) := by
        unfold Hid
        rw [unhide HNX, if_neg (fun h => hgt h.2.1), List.append_nil]
       go_wp2
       refine ⟨⟨m + 1, by omega, by go_num, ?_⟩, by simp [intOf]; omega⟩
       rw [unhide HNX2]
       exact HMO2
     ·have hpb := ne_beq hpe
      have HNX2 : Hid (marksI n qs d (P.take k) ++ mkX n (qs.take (m + 1)) dk ⟨⟨xp, xy⟩, lo, hi⟩ = MM) := by
       unfold Hid
       rw [unhide HNX, if_neg (fun h => hpe h.1), List.append_nil]
      clear hpe
      go_wp2
      refine ⟨⟨m + 1, by omega, by go_num, ?_⟩, by simp [intOf]; omega⟩
      rw [unhide HNX2]
      exact hide ((unhide HMO).below bw0)
    ·have hmq : m = qs.length := by omega
     have hw1 : IntKind.i64.wrap (hi - lo) = hi - lo := wrap_small (by omega) (by omega)
     have hw2 : IntKind.i64.wrap (dk + (hi - lo)) = dk + (hi - lo) := wrap_small (by omega) (by omega)
     have HE : Hid (marksI n qs d (P.take (k + 1)) = MM) := by
      unfold Hid
      rw [unhide HT, marksI_app, unhide HDK, ← unhide HMM, hmq, List.take_length]
      simp [marksI]
     have HE2 : Hid (d + lenS (P.take (k + 1)) = dk + (hi - lo)) := by
      unfold Hid
      rw [unhide HT, lenS_app, ← unhide HDK]
      simp only [lenS]
      omega
     clear hmq
     go_wp2
     refine ⟨⟨k + 1, by omega, by go_num, by rw [unhide HE2], ?_, (unhide HMO).box, hbq⟩, by simp [intOf]; omega⟩
     rw [unhide HE]
     exact hide (unhide HMO).row
  ·have hkl : k = P.length := by omega
   obtain ⟨ya, yc, hye, _, _⟩ := (unhide HROW).shape mkF_len
   have HMI0 := marksI_len n qs P d
   have hmi : (marksI n qs d P).length ≤ 660000 := Nat.le_trans HMI0 (Nat.le_trans (Nat.mul_le_mul hpl hql) (by omega))
   rw [hkl, List.take_length] at HROW hye
   obtain ⟨MM, hMM⟩ : ∃ MM, marksI n qs d P = MM := ⟨_, rfl⟩
   rw [hMM] at HROW hye hmi
   have HMM := hide hMM
   subst hye
   clear hMM HMI0
   cases MM with
   | nil =>
    go_wp2_with fail
    refine (sort0_any _ _ _).mono ?_
    rintro e w2 ⟨rfl, rfl⟩
    go_wp2_with fail
    go_ret
    exact ⟨ya, yc, [], rfl, fun i hi => absurd hi (Nat.not_lt_zero _), Nat.zero_le _, by rw [unhide HMM], List.Pairwise.nil, Nat.zero_le _, unhide HB⟩
   | cons m0 r0 =>
    have hpos : 0 < (m0 :: r0).length := by simp
    obtain ⟨MM, hMM⟩ : ∃ MM, m0 :: r0 = MM := ⟨_, rfl⟩
    rw [hMM] at HROW HMM hmi hpos ⊢
    clear hMM
    obtain ⟨g, rfl⟩ : ∃ g, ya = some ⟨g, 0, none⟩ := by
     obtain ⟨a, cap, hv, hc, hx⟩ := (unhide HROW).shape mkF_len
     obtain ⟨g, ha, _⟩ := hx 0 hpos
     simp only [Value.slice.injEq] at hv
     exact ⟨g, hv.1.trans ha⟩
    have hgl := (unhide HROW).lt g rfl
    have hgc : MM.length ≤ yc := by
     obtain ⟨a, cap, hv, hc, hx⟩ := (unhide HROW).shape mkF_len
     simp only [Value.slice.injEq] at hv
     omega
    go_wp2_with fail
    refine (sortM_any g MM.length yc (H + 1) MM wr (unhide HROW) rfl (by omega)).mono ?_
    rintro e w2 ⟨rfl, M2, hpm, hps, hr2, hT⟩
    have hl2 : M2.length = MM.length := hpm.length_eq
    have hbb : Below w.heap.size w w2 := (unhide HB).trans ⟨hT.os, hT.tape, hT.output, hT.size, fun k hk => hT.block k (Nat.lt_of_lt_of_le hk (unhide HB).size) (by omega) (by simp [Value.ownBlock])⟩
    have HF : Hid (∃ a cap M, Value.slice (some ⟨g, 0, none⟩) MM.length yc = .slice a M.length cap ∧ MksAt w2 a M ∧ M.length ≤ cap ∧ M.Perm (marksI n qs d P) ∧ (M.Pairwise fun x y => ¬ Mlt y x) ∧ M.length ≤ 660000 ∧ Below w.heap.size w w2) := by
     obtain ⟨a, cap, hv, hc, hx⟩ := mkRow_at hr2
     refine ⟨a, cap, M2, by rw [← hl2] at hv ⊢; exact hv, hx, hc, ?_, hps, by omega, hbb⟩
     rw [unhide HMM]
     exact hpm
    clear hpm hps hr2 hT hbb
    go_wp2_with fail
    go_ret
    obtain ⟨a, cap, M, e, h⟩ := unhide HF
    exact ⟨a, cap, M, by rw [e]; rfl, h⟩
end Go.Proofs.YtjacbppeebnjfaaGreat

set_option linter.unusedSimpArgs false
namespace Go.Proofs.YtjacbppeebnjfaaGreat
open Go.RowKit

def prevA (ax : List Int) (i : Nat) : Int := if i = 0 then 0 else ax.getD (i - 1) 0
theorem prevA_succ {ax : List Int} {i : Nat} (h : i < ax.length) : prevA ax (i + 1) = ax[i] := by
 unfold prevA
 rw [if_neg (by omega), List.getD_eq_getElem?_getD, Nat.add_sub_cancel, List.getElem?_eq_getElem h]
 rfl
set_option maxRecDepth 100000 in
set_option maxHeartbeats 2000000 in
theorem axlesFit_any (zq : Option Addr) (zc : Nat) (ax : List Int) (long : Int) (w : World) {L : Nat} (hz : IntsAt L w zq ax) (hl : ax.length ≤ 1048576) :
  Calls Tryz.prog 18 #[.slice zq ax.length zc, .int .i64 long] w fun e w' => RetB (AxFit ax long) e ∧ Below w.heap.size w w' := by
 go_enter Tryz.func18, Tryz.ntmps18
 go_wp2_with fail
 go_loopw [5, 10] (fun p z wr => ∃ k : Nat, k ≤ ax.length ∧ z = .int .i64 k ∧ p = .int .i64 (prevA ax k) ∧ Hid (0 ≤ prevA ax k ∧ ∀ i (h : i < ax.length), i < k → AxOne ax long i ax[i]) ∧ Below w.heap.size w wr) (fun _ z _ => ax.length - (intOf z).toNat)
 case atStart => exact ⟨0, Nat.zero_le _, rfl, rfl, hide ⟨by simp [prevA], fun i h h0 => by omega⟩, bw0⟩
 case round =>
  obtain ⟨k, hk, rfl, rfl, HI, hb⟩ := hrel
  rename World => wr
  by_cases hlt : k < ax.length
  ·have hlt' : (k : Int) < (ax.length : Int) := by omega
   obtain ⟨zb, zo, rfl, hzl, z0⟩ := hz.below hb k hlt
   have hzl2 := hzl.2
   have HS := hide (prevA_succ hlt)
   have HD : Hid (prevA ax k ≤ ax[k] → ax[k] ≤ long → AxOne ax long k ax[k]) := fun h1 h2 => by
    have := (unhide HI).1
    refine ⟨⟨by omega, h2⟩, fun h0 => ?_⟩
    unfold prevA at h1
    rw [if_neg (by omega)] at h1
    exact h1
   have HN : Hid (AxOne ax long k ax[k] → prevA ax k ≤ ax[k] ∧ ax[k] ≤ long) := fun h => by
    refine ⟨?_, h.1.2⟩
    unfold prevA
    split
    ·exact h.1.1
    ·exact h.2 (by omega)
   obtain ⟨pr, hpr⟩ : ∃ pr, prevA ax k = pr := ⟨_, rfl⟩
   obtain ⟨a, ha⟩ : ∃ a, ax[k] = a := ⟨_, rfl⟩
   have HA := hide ha
   rw [hpr] at HI HD HN ⊢
   rw [ha] at z0 HS HD HN
   clear hpr ha
   by_cases h1 : a < pr
   ·go_wp2
    go_ret
    refine ⟨retB_false fun h => ?_, hb⟩
    have := (unhide HN (by have := h.2 k hlt; rw [unhide HA] at this; exact this)).1
    omega
   ·by_cases h2 : long < a
    ·go_wp2
     go_ret
     refine ⟨retB_false fun h => ?_, hb⟩
     have := (unhide HN (by have := h.2 k hlt; rw [unhide HA] at this; exact this)).2
     omega
    ·go_wp2
     refine ⟨⟨k + 1, by omega, by go_num, by rw [unhide HS], ⟨?_, fun i hi h0 => ?_⟩, hb⟩, by simp [intOf]; omega⟩
     ·rw [unhide HS]
      have := (unhide HI).1
      omega
     ·by_cases e : i = k
      ·subst e
       rw [unhide HA]
       exact unhide HD (by omega) (by omega)
      ·exact (unhide HI).2 i hi (by omega)
  ·have hkl : k = ax.length := by omega
   by_cases h60 : ax.length ≤ 60
   ·have h60' : (ax.length : Int) ≤ 60 := by omega
    go_wp2
    go_ret
    exact ⟨retB_true ⟨h60, fun i hi => (unhide HI).2 i hi (by omega)⟩, hb⟩
   ·have h60' : ¬ (ax.length : Int) ≤ 60 := by omega
    go_wp2
    go_ret
    exact ⟨retB_false fun h => h60 h.1, hb⟩
theorem within_lit (x m : Int) (w : World) : Calls Tryz.prog 42 #[.int .i64 x, .int .i64 m] w fun e w' => e = .returned (.bool (decide (1 ≤ x ∧ x ≤ m))) ∧ Below w.heap.size w w' := by
 refine (within_any x m w).mono ?_
 rintro e w' ⟨⟨rfl, h⟩ | ⟨rfl, h⟩, rfl⟩
 ·exact ⟨by rw [decide_eq_true h], Below.refl _ _⟩
 ·exact ⟨by rw [decide_eq_false h], Below.refl _ _⟩
set_option maxRecDepth 100000 in
set_option maxHeartbeats 4000000 in
theorem postsFit_any (kv : Value) (n : Nt) (qa : Option Addr) (qc : Nat) (qs : List (Int × Int)) (w : World) {L L2 : Nat} (hk : TrkAt L w kv n) (hG : NetGood n) (hq : PoAt L2 w qa qs) (hl : qs.length ≤ 1048576) :
  Calls Tryz.prog 19 #[kv, .slice qa qs.length qc] w fun e w' => RetB (PoFit n qs) e ∧ Below w.heap.size w w' := by
 obtain ⟨ka, kca, sh, csh, st, cst, rfl, hp, _⟩ := hk
 obtain ⟨H, hH⟩ : ∃ H, w.heap.size = H := ⟨_, rfl⟩
 have hHw : w.heap.size ≤ H ∧ H ≤ w.heap.size := by omega
 go_enter Tryz.func19, Tryz.ntmps19
 go_wp2_with fail
 go_loopw [9] (fun z wr => ∃ k : Nat, k ≤ qs.length ∧ z = .int .i64 k ∧ Hid (∀ i (h : i < qs.length), i < k → PostOk n qs[i]) ∧ Boxed wr H [.slice ka n.pieces.length kca, .slice sh n.joints.length csh, .slice st n.pieces.length cst] ∧ Below w.heap.size w wr) (fun z _ => qs.length - (intOf z).toNat)
 case atStart =>
  refine ⟨0, Nat.zero_le _, rfl, hide (fun i h h0 => by omega), ?_, bw0⟩
  exact boxedN _ _ _ (by omega)
 case round =>
  obtain ⟨k, hk, rfl, HI, hBk, hb⟩ := hrel
  rename World => wr
  have hsz := hb.size
  by_cases hlt : k < qs.length
  ·have hlt' : (k : Int) < (qs.length : Int) := by omega
   obtain ⟨qb, qo, rfl, hql, q0, q1⟩ := hq.below hb k hlt
   have hql2 := hql.2
   have k0 := hBk.2.1 0 _ rfl
   have k1 := hBk.2.1 1 _ rfl
   have k2 := hBk.2.1 2 _ rfl
   have kl := hBk.1
   obtain ⟨q, hqe⟩ : ∃ q, qs[k] = q := ⟨_, rfl⟩
   have HQ := hide hqe
   rw [hqe] at q0 q1
   obtain ⟨qp, qx⟩ := q
   dsimp only at q0 q1
   clear hqe
   by_cases h1 : qp < 0
   ·have h1d : decide (qp < 0) = true := by simpa using h1
    have HN : Hid (¬ PoFit n qs) := fun h => by have := (h.2 k hlt).1; rw [unhide HQ] at this; dsimp only at this; omega
    clear h1
    go_wp2_with fail
    refine wp_region_grown (by kernel_rfl) (by kernel_rfl) (fun hgn hgc => ?_)
    repeat (go_big_quiet_step (fail))
    refine wpQuiet_nil ?_
    intro wq hwq
    have hbq : Below w.heap.size w wq := by obtain ⟨g, rfl⟩ := hwq; exact below_then hb (below_then bw0 g.below)
    clear hwq hgc hgn
    go_wp2
    go_ret
    exact ⟨retB_false (unhide HN), hbq⟩
   ·have h1d : decide (qp < 0) = false := by simpa using h1
    by_cases h2 : (n.pieces.length : Int) ≤ qp
    ·have h2d : decide ((n.pieces.length : Int) ≤ qp) = true := by simpa using h2
     have HN : Hid (¬ PoFit n qs) := fun h => by have := (h.2 k hlt).1; rw [unhide HQ] at this; dsimp only at this; omega
     clear h2 h1
     go_wp2_with fail
     refine wp_region_grown (by kernel_rfl) (by kernel_rfl) (fun hgn hgc => ?_)
     repeat (go_big_quiet_step (fail))
     refine wpQuiet_nil ?_
     intro wq hwq
     have hbq : Below w.heap.size w wq := by obtain ⟨g, rfl⟩ := hwq; exact below_then hb (below_then bw0 g.below)
     clear hwq hgc hgn
     go_wp2
     go_ret
     exact ⟨retB_false (unhide HN), hbq⟩
    ·have h2d : decide ((n.pieces.length : Int) ≤ qp) = false := by simpa using h2
     have hq1 : 0 ≤ qp := by omega
     have hq2 : qp < n.pieces.length := by omega
     have hll := hG.len hq1 hq2
     obtain ⟨b, off, rfl, hbb, c1⟩ := hp.len hq1 hq2
     have c2 := (hb.cell hbb).trans c1
     have hbb2 : b < wr.heap.size := by omega
     obtain ⟨pn, rfl⟩ := Int.eq_ofNat_of_zero_le hq1
     simp only [Int.toNat_natCast] at c2
     have h2n : decide (n.pieces.length ≤ pn) = false := by simp; omega
     have hw1 : IntKind.i64.wrap (lenOf n pn - 1) = lenOf n pn - 1 := wrap_small (by omega) (by omega)
     have HE : Hid (PostOk n ((pn : Int), qx) ↔ (1 ≤ qx ∧ qx ≤ lenOf n pn - 1)) := ⟨fun h => h.2, fun h => ⟨⟨hq1, hq2⟩, h⟩⟩
     obtain ⟨ln, hln⟩ : ∃ ln, lenOf n pn = ln := ⟨_, rfl⟩
     rw [hln] at HE hw1 c2
     obtain ⟨rb, hrb⟩ : ∃ rb, decide (1 ≤ qx ∧ qx ≤ ln - 1) = rb := ⟨_, rfl⟩
     have HW : Hid (∀ W, Calls Tryz.prog 42 #[.int .i64 qx, .int .i64 (ln - 1)] W fun e w' => e = .returned (.bool rb) ∧ Below W.heap.size W w') := fun W => hrb ▸ within_lit qx (ln - 1) W
     have HRB := hide hrb
     clear c1 hll hln hrb
     go_wp2_with fail
     refine wp_region_grown (by kernel_rfl) (by kernel_rfl) (fun hgn hgc => ?_)
     repeat (go_big_quiet_step (first | (go_at_call 42; rename_i g; exact g.call (unhide HW _))))
     refine wpQuiet_nil ?_
     intro wq hwq
     have hbq0 : Below wr.heap.size wr wq := by obtain ⟨g, rfl⟩ := hwq; exact below_then bw0 g.below
     clear hwq hgc hgn
     cases rb with
     | true =>
      go_wp2
      refine ⟨⟨k + 1, by omega, by go_num, ?_, hBk.below hbq0, below_then hb hbq0⟩, by simp [intOf]; omega⟩
      refine hide (fun i hi h0 => ?_)
      by_cases e : i = k
      ·subst e
       rw [unhide HQ]
       exact (unhide HE).2 (of_decide_eq_true (unhide HRB))
      ·exact unhide HI i hi (by omega)
     | false =>
      go_wp2
      go_ret
      refine ⟨retB_false fun h => ?_, below_then hb hbq0⟩
      have := h.2 k hlt
      rw [unhide HQ] at this
      exact absurd ((unhide HE).1 this) (of_decide_eq_false (unhide HRB))
  ·have hkl : k = qs.length := by omega
   by_cases h60 : qs.length ≤ 60
   ·have h60' : (qs.length : Int) ≤ 60 := by omega
    go_wp2
    go_ret
    exact ⟨retB_true ⟨h60, fun i hi => unhide HI i hi (by omega)⟩, hb⟩
   ·have h60' : ¬ (qs.length : Int) ≤ 60 := by omega
    go_wp2
    go_ret
    exact ⟨retB_false fun h => h60 h.1, by first | exact hb | (rw [← hH]; exact hb)⟩
end Go.Proofs.YtjacbppeebnjfaaGreat

set_option linter.unusedSimpArgs false
namespace Go.Proofs.YtjacbppeebnjfaaGreat
open Go.RowKit

theorem append_rows {P : Program} {α : Type} {w : World} {base base2 : Nat} {e : TypeId} {sz : Nat} {f : α → List Value} (hf : ∀ x, (f x).length = sz) (h1 : ∀ x, ∀ u ∈ f x, u.oneCell' = true) {v xv : Value} {xs ys : List α} (hv : Row w base e sz f v xs) (hx : Row w base2 e sz f xv ys) (t ty : TypeId) (i : TypeInfo) (z : Value) (bytes : Nat)
  (ht : P.underlying t = some (.slice e)) (hi : P.info? e = some i) (hz : i.zero = some z) (hsize : i.size = sz) (hby : i.bytes = bytes) (hzs : z.cells.size = sz) (hsz : 0 < sz) (h63 : xs.length + ys.length ≤ maxLen) (hbytes : (xs.length + ys.length) * bytes ≤ 140737488355328) (hbase : base ≤ w.heap.size) :
  ∃ u w', (Builtin.append_ #[t, t] ty #[v, xv]).run P w = .ok u w' ∧ Row w' base e sz f u (xs ++ ys) ∧ w.grownBy w' v.ownBlock := by
 by_cases hy : ys = []
 ·subst hy
  refine ⟨v, w, ?_, by rw [List.append_nil]; exact hv, ⟨rfl, rfl, rfl, Nat.le_refl _, fun _ _ _ => rfl⟩⟩
  obtain ⟨a, cap, rfl, hc, _⟩ := hx.shape hf
  obtain ⟨_, ⟨hv', _⟩ | ⟨g, cap2, cur, hv', _, _, hnc, _⟩⟩ := hv
  ·subst hv'
   cases a <;> simp [Builtin.append_, run_underlying ht, sizeOf, typeInfo, hi, Builtin.lenOf, Builtin.firstCells, loadCells, loadCellsFrom]
  ·subst hv'
   cases a <;> simp [Builtin.append_, run_underlying ht, sizeOf, typeInfo, hi, Builtin.lenOf, Builtin.firstCells, hnc, storeCells, loadCells, loadCellsFrom]
 ·have hpos : 0 < ys.length := List.length_pos_iff.2 hy
  obtain ⟨a, cap, rfl, hc, hs⟩ := hx.shape hf
  obtain ⟨g0, rfl, _⟩ := hs 0 hpos
  have hcell : ∀ j u, (ys.flatMap f)[j]? = some u → w.cell? ((⟨g0, 0, none⟩ : Addr).add j) = some u := fun j u hu => by
   obtain ⟨hlt, _⟩ := List.getElem?_eq_some_iff.1 hu
   rw [flat_len hf] at hlt
   have := hx.cellAt j hlt
   rw [show (⟨g0, 0, none⟩ : Addr).add j = ⟨g0, j, none⟩ by unfold Addr.add; split <;> simp_all, this, hu]
  obtain ⟨g, cap', w', hr, h2, h3, _⟩ := run_append_lies (P := P) w t ty base e i z sz bytes ht hi hz hsize hby hzs hsz v xs.length (xs.flatMap f) hv ⟨g0, 0, none⟩ ys.length cap (ys.flatMap f) (flat_len hf ys) hcell (fun u hu => by
   obtain ⟨x, _, hxu⟩ := List.mem_flatMap.1 hu
   exact h1 x u hxu) hpos h63 hbytes hbase w.heap.size rfl
  refine ⟨_, w', hr, ?_, h3⟩
  unfold Row
  rw [List.length_append, List.flatMap_append]
  exact h2
theorem step_append_rows {P : Program} {α : Type} {w : World} {ops : Array Oper} {o : Oper} {a : Act} {K : Act → World → Prop} {Q : Exit → Act → World → Prop} {E : Prop} (hgd : o.guard = none) (s x : Operand) {base base2 : Nat} {e : TypeId} {sz : Nat} {f : α → List Value} {xs ys : List α} (t : TypeId) (ho : o.op = .call { callee := .builtin .append, args := #[s, x], argTypes := #[t, t] })
  (hf : ∀ x, (f x).length = sz) (h1 : ∀ x, ∀ u ∈ f x, u.oneCell' = true) (v xv : Value) (hs : a.eval s = v) (hxe : a.eval x = xv) (hv : Row w base e sz f v xs) (hx : Row w base2 e sz f xv ys) (i : TypeInfo) (z : Value) (bytes : Nat)
  (ht : P.underlying t = some (.slice e)) (hi : P.info? e = some i) (hz : i.zero = some z) (hsize : i.size = sz) (hby : i.bytes = bytes) (hzs : z.cells.size = sz) (hsz : 0 < sz) (h63 : xs.length + ys.length ≤ maxLen) (hbytes : (xs.length + ys.length) * bytes ≤ 140737488355328) (hbase : base ≤ w.heap.size)
  (h : ∀ u w', Row w' base e sz f u (xs ++ ys) → w.grownBy w' v.ownBlock → K (a.put o.dst u) w') : if Region.wanted o (yielded ops a.tmps) = true then Oper.wp P o a w K Q else E := by
 have hw : Region.wanted o (yielded ops a.tmps) = true := by simp [Region.wanted, hgd]
 rw [if_pos hw]
 obtain ⟨u, w', hr, h2, h3⟩ := append_rows hf h1 hv hx t o.type i z bytes ht hi hz hsize hby hzs hsz h63 hbytes hbase
 unfold Oper.wp execOp
 simp only [ho, resolve, invoke, builtin, Sem.run_bind, Sem.run_pure, Result.andThen_ok, List.map_toArray, List.map_cons, List.map_nil, hs, hxe, hr]
 exact h u w' h2 h3
end Go.Proofs.YtjacbppeebnjfaaGreat

set_option linter.unusedSimpArgs false
namespace Go.Proofs.YtjacbppeebnjfaaGreat
open Go.RowKit

def cntLt (ms : List Mrk) (f : Int) : Nat := (ms.takeWhile fun m => decide (m.far < f)).length
def RetIx (k : Nat) (e : Ending) : Prop := ∃ b, e = .returned (.tuple #[.int .i64 k, .bool b])
theorem cntLt_is {ms : List Mrk} {f : Int} {i : Nat} (hi : i ≤ ms.length) (h1 : ∀ j (hj : j < ms.length), j < i → ms[j].far < f) (h2 : ∀ (hj : i < ms.length), ¬ ms[i].far < f) : cntLt ms f = i := by
 unfold cntLt
 induction ms generalizing i with
 | nil => simp at hi; simp [hi]
 | cons m r ih =>
  cases i with
  | zero =>
   have := h2 (by simp)
   simp only [List.getElem_cons_zero] at this
   rw [List.takeWhile_cons, if_neg (by simpa using this)]
   rfl
  | succ i =>
   have h0 := h1 0 (by simp) (by omega)
   simp only [List.getElem_cons_zero] at h0
   rw [List.takeWhile_cons, if_pos (by simpa using h0), List.length_cons, ih (i := i) (by simpa using hi) (fun j hj hji => by have := h1 (j + 1) (by simpa using hj) (by omega); simpa using this) (fun hj => by have := h2 (by simpa using hj); simpa using this)]
set_option maxRecDepth 100000 in
set_option maxHeartbeats 8000000 in
theorem bsearch_any (f : Int) (ms : List Mrk) (a : Option Addr) (cap : Nat) (w : World) (hm : MksAt w a ms) (hs : ∀ i j (hi : i < ms.length) (hj : j < ms.length), i ≤ j → ms[i].far ≤ ms[j].far) (hl : ms.length ≤ 1000000) :
  Calls Tryz.prog 52 #[.slice a ms.length cap, .int .i64 f, .func (.func 53) #[] #[]] w fun e w' => RetIx (cntLt ms f) e ∧ Below w.heap.size w w' := by
 have HM := hide hm
 have HS := hide hs
 clear hm hs
 go_enter Tryz.func52, Tryz.ntmps52
 go_wp2_with fail
 go_loopw [9, 10] (fun y z wr => ∃ (i j : Nat), y = .int .i64 i ∧ z = .int .i64 j ∧ i ≤ j ∧ j ≤ ms.length ∧ Hid ((∀ k (hk : k < ms.length), k < i → ms[k].far < f) ∧ (∀ k (hk : k < ms.length), j ≤ k → f ≤ ms[k].far) ∧ Below w.heap.size w wr)) (fun y z _ => (intOf z).toNat - (intOf y).toNat)
 case atStart => exact ⟨0, ms.length, rfl, rfl, Nat.zero_le _, Nat.le_refl _, (fun k _ h => by omega), (fun k hk h => by omega), Below.refl _ _⟩
 case round =>
  obtain ⟨i, j, rfl, rfl, hij, hj, HR⟩ := hrel
  rename World => wr
  by_cases hlt : i < j
  ·have hlt' : (i : Int) < (j : Int) := by omega
   obtain ⟨h, hh⟩ : ∃ h, (i + j) / 2 = h := ⟨_, rfl⟩
   have hw : IntKind.i64.wrap ((i : Int) + (j : Int)) = ((i + j : Nat) : Int) := (wrap_small (by omega) (by omega)).trans (by omega)
   have hu : IntKind.u64.wrap ((i + j : Nat) : Int) = ((i + j : Nat) : Int) := by simp [IntKind.wrap, IntKind.bits, IntKind.signed]; omega
   have hil : h < ms.length := by omega
   obtain ⟨b, off, rfl, hbl, c0, c1, c2⟩ := unhide HM h hil
   have hb := (unhide HR).2.2
   have d0 := (hb.cell hbl).trans c0
   have d1 := (hb.cell hbl).trans c1
   have d2 := (hb.cell hbl).trans c2
   have hbl' : b < wr.heap.size := Nat.lt_of_lt_of_le hbl hb.size
   have hh' : (h : Int) < (ms.length : Int) := by omega
   clear hb c0 c1 c2
   have hhE : ((i : Int) + (j : Int)) / 2 = (h : Int) := by omega
   have hw3 : IntKind.i64.wrap ((h : Int) + 1) = ((h + 1 : Nat) : Int) := (wrap_small (by omega) (by omega)).trans (by omega)
   obtain ⟨m, hmj⟩ : ∃ m, ms[h] = m := ⟨_, rfl⟩
   rw [hmj] at d0 d1 d2
   have HMJ := hide hmj
   clear hmj
   go_wp2_with fail
   obtain ⟨r, hr⟩ : ∃ r, cmpI m.far f = r := ⟨_, rfl⟩
   have hcf := compareFar_any m f wr
   rw [hr] at hcf
   refine hcf.mono ?_
   rintro e w2 ⟨rfl, hb2⟩
   have HB2 := hide (below_then (unhide HR).2.2 hb2)
   clear hcf hb2 d0 d1 d2
   by_cases hc : m.far < f
   ·have hr0 : r < 0 := by rw [← hr]; unfold cmpI; rw [if_pos hc]; decide
    have HX : Hid ((∀ k (hk : k < ms.length), k < h + 1 → ms[k].far < f) ∧ (∀ k (hk : k < ms.length), j ≤ k → f ≤ ms[k].far) ∧ Below w.heap.size w w2) := by
     refine ⟨fun k hk hkh => ?_, (unhide HR).2.1, unhide HB2⟩
     have h1 := unhide HS k h hk hil (by omega)
     rw [unhide HMJ] at h1
     omega
    clear hr
    go_wp2_with fail
    exact ⟨⟨h + 1, j, rfl, rfl, by omega, hj, HX⟩, by simp [intOf]; omega⟩
   ·have hr0 : ¬ r < 0 := by rw [← hr]; unfold cmpI; rw [if_neg hc]; split <;> decide
    have HX : Hid ((∀ k (hk : k < ms.length), k < i → ms[k].far < f) ∧ (∀ k (hk : k < ms.length), h ≤ k → f ≤ ms[k].far) ∧ Below w.heap.size w w2) := by
     refine ⟨(unhide HR).1, fun k hk hkh => ?_, unhide HB2⟩
     have h1 := unhide HS h k hil hk hkh
     rw [unhide HMJ] at h1
     omega
    clear hr
    go_wp2_with fail
    exact ⟨⟨i, h, rfl, by first | rfl | (rw [hhE]), by omega, by omega, HX⟩, by simp [intOf]; omega⟩
  ·have hlt' : ¬ (i : Int) < (j : Int) := by omega
   obtain rfl : i = j := by omega
   have hcn := cntLt_is (f := f) hj (unhide HR).1 (fun h => by have := (unhide HR).2.1 i h (Nat.le_refl _); omega)
   have HCN := hide hcn
   clear hcn
   by_cases hil : i < ms.length
   ·have hil' : (i : Int) < (ms.length : Int) := by omega
    obtain ⟨b, off, rfl, hbl, c0, c1, c2⟩ := unhide HM i hil
    have hb := (unhide HR).2.2
    have d0 := (hb.cell hbl).trans c0
    have d1 := (hb.cell hbl).trans c1
    have d2 := (hb.cell hbl).trans c2
    have hbl' : b < wr.heap.size := Nat.lt_of_lt_of_le hbl hb.size
    clear hb c0 c1 c2
    go_wp2_with fail
    obtain ⟨r, hr⟩ : ∃ r, cmpI ms[i].far f = r := ⟨_, rfl⟩
    have hcf := compareFar_any ms[i] f wr
    rw [hr] at hcf
    refine hcf.mono ?_
    rintro e w2 ⟨rfl, hb2⟩
    have HB2 := hide (below_then (unhide HR).2.2 hb2)
    clear hcf hb2 d0 d1 d2 hr
    go_wp2_with fail
    refine bodyPost_ret (v := .tuple #[.int .i64 (i : Int), .bool (r == 0)]) (by simp [results, Tryz.results52, go_sem]) rfl ?_
    rw [unhide HCN]
    exact ⟨⟨_, rfl⟩, unhide HB2⟩
   ·have hil' : ¬ (i : Int) < (ms.length : Int) := by omega
    go_wp2_with fail
    refine bodyPost_ret (v := .tuple #[.int .i64 (i : Int), .bool false]) (by simp [results, Tryz.results52, go_sem]) rfl ?_
    rw [unhide HCN]
    exact ⟨⟨_, rfl⟩, (unhide HR).2.2⟩

theorem uPass : Tryz.prog.underlying 40 = some (.slice 43) := by kernel_rfl
theorem uIntP : Tryz.prog.underlying 3 = some (.int .i64) := by kernel_rfl
set_option maxRecDepth 100000 in
set_option maxHeartbeats 2000000 in
theorem growA_any (m : Nat) (w : World) (hm : m ≤ 100000000) :
  Calls Tryz.prog 55 #[.slice none 0 0, .int .i64 m] w fun e w' => ∃ v, e = .returned v ∧ PaRow w' w.heap.size v [] ∧ Below w.heap.size w w' := by
 obtain ⟨i0, hi, hz0, hz1, hz2⟩ := info_parts info_pass
 by_cases h0 : m = 0
 ·subst h0
  go_enter Tryz.func55, Tryz.ntmps55
  go_wp2_with fail
  go_ret
  exact ⟨_, rfl, Row.nil _ _ _ _ _, Below.refl _ _⟩
 ·have hrz := fun ty => Lib.run_append_nil_zeros (P := Tryz.prog) w 40 3 ty 43 i0 (.agg #[.int .i64 0, .int .i64 0, .int .i64 0]) .i64 .i64 uPass uIntP hi hz0 m (by omega) (by omega) (by omega) (by rw [hz2]; omega)
  have hcge := grownCap_ge w m 0 43
  have hcle := grownCap_le_maxLen w m 0 43 (by unfold maxLen; omega)
  obtain ⟨G, hG⟩ : ∃ G, grownCap w m 0 43 = G := ⟨_, rfl⟩
  rw [hG] at hrz hcge hcle
  clear hG
  obtain ⟨cur, hcur⟩ : ∃ cur, Builtin.zeroCells (Value.agg #[.int .i64 0, .int .i64 0, .int .i64 0]).cells m ++ Builtin.zeroCells (Value.agg #[.int .i64 0, .int .i64 0, .int .i64 0]).cells (G - m) = cur := ⟨_, rfl⟩
  have hcs : cur.size = G * 3 := by rw [← hcur]; simp [size_zeroCells, Value.cells]; omega
  rw [hcur] at hrz
  clear hcur
  have hm' : (0 : Int) < (m : Int) := by omega
  have hGm : G ≤ 9223372036854775807 := by unfold maxLen at hcle; omega
  go_enter Tryz.func55, Tryz.ntmps55
  go_wp2_with (at_builtin; refine Lib.wpList_append_run _ rfl _ _ _ _ rfl _ _ rfl rfl _ _ (hrz _) ?_)
  all_goals go_ret
  exact ⟨_, rfl, ⟨rfl, Or.inr ⟨w.heap.size, G, cur, rfl, Nat.le_refl _, Deep.blk_alloc_new w (.cells cur 43), by simp, hcle, hcs, by simp⟩⟩, bw0⟩

end Go.Proofs.YtjacbppeebnjfaaGreat

