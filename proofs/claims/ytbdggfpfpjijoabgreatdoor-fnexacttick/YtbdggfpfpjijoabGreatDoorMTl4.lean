import Derived.Test.YtbdggfpfpjijoabGreatDoorMTl1
import Derived.Test.YtbdggfpfpjijoabGreatDoorTk10
import Derived.Test.YtbdggfpfpjijoabGreatDoorSpec23
import Derived.Test.YtbdggfpfpjijoabGreatDoorMRead
import Derived.Test.YtbdggfpfpjijoabGreatDoorMEq
import Derived.Test.YtbdggfpfpjijoabGreatDoorMTs1
import Derived.Test.YtbdggfpfpjijoabGreatDoorMSpec22
set_option linter.unusedSimpArgs false
namespace Go.Proofs.YtbdggfpfpjijoabGreatDoor
open Go.RowKit

structure TkRd (w : World) (base : Nat) (b : TkS) (a c f s : Option Addr) (m1 m2 m3 m4 : Nat) : Prop where
 t : TnRow w base (.slice a b.ts.length m1) b.ts
 c : NtRow w base (.slice c b.codes.length m2) b.codes
 f : NtRow w base (.slice f b.fars.length m3) b.fars
 s : SkRow w base (.slice s b.strikes.length m4) b.strikes
theorem TkRd.blocks {w w' : World} {base : Nat} {b : TkS} {a c f s : Option Addr} {m1 m2 m3 m4 : Nat} (h : TkRd w base b a c f s m1 m2 m3 m4) (hk : ∀ k, base ≤ k → k < w.heap.size → w'.heap[k]? = w.heap[k]?) : TkRd w' base b a c f s m1 m2 m3 m4 :=
 ⟨h.t.blocks hk, h.c.block fun k h1 => hk k (h.c.lt k h1).1 (h.c.lt k h1).2, h.f.block fun k h1 => hk k (h.f.lt k h1).1 (h.f.lt k h1).2, h.s.block fun k h1 => hk k (h.s.lt k h1).1 (h.s.lt k h1).2⟩
theorem TkRd.below {w w' : World} {base : Nat} {b : TkS} {a c f s : Option Addr} {m1 m2 m3 m4 : Nat} (h : TkRd w base b a c f s m1 m2 m3 m4) (hb : Below w.heap.size w w') : TkRd w' base b a c f s m1 m2 m3 m4 := h.blocks fun k _ hk => hb.block k hk
theorem TkRd.trs {w : World} {base : Nat} {b : TkS} {a c f s : Option Addr} {m1 m2 m3 m4 : Nat} (h : TkRd w base b a c f s m1 m2 m3 m4) : TrsIn base w a b.ts := by
 obtain ⟨a', cap, e, hx⟩ := tnRow_at h.t
 simp only [Value.slice.injEq, true_and] at e
 rw [e.1]
 exact hx.in
theorem TkRd.codes {w : World} {base : Nat} {b : TkS} {a c f s : Option Addr} {m1 m2 m3 m4 : Nat} (h : TkRd w base b a c f s m1 m2 m3 m4) : IntsAt base w c b.codes := by
 obtain ⟨a', cap, e, _, hx⟩ := ntRow_at h.c
 simp only [Value.slice.injEq, true_and] at e
 rw [e.1]
 exact hx
theorem TkRd.fars {w : World} {base : Nat} {b : TkS} {a c f s : Option Addr} {m1 m2 m3 m4 : Nat} (h : TkRd w base b a c f s m1 m2 m3 m4) : IntsAt base w f b.fars := by
 obtain ⟨a', cap, e, _, hx⟩ := ntRow_at h.f
 simp only [Value.slice.injEq, true_and] at e
 rw [e.1]
 exact hx
theorem TkRd.strs {w : World} {base : Nat} {b : TkS} {a c f s : Option Addr} {m1 m2 m3 m4 : Nat} (h : TkRd w base b a c f s m1 m2 m3 m4) : SksAt base w s b.strikes := by
 obtain ⟨a', cap, e, _, hx⟩ := skRow_at h.s
 simp only [Value.slice.injEq, true_and] at e
 rw [e.1]
 exact hx
def TkFew (b : TkS) : Prop := b.ts.length ≤ 20 ∧ (∀ i (h : i < b.ts.length), b.ts[i].back.length ≤ 1000) ∧ b.codes.length ≤ 20 ∧ b.fars.length ≤ 20 ∧ b.strikes.length ≤ 400
theorem tickTo_strikes {n : Nt} {zs : List Int} {ts : List Tr} {vs : List Int} (hg : TickGood n zs ts vs) {i : Nat} {a : TkS} (h : TickTo n zs ts vs i a) : a.strikes.length ≤ 20 * i ∧ i ≤ ts.length := by
 induction h with
 | zero => simp
 | @succ i a b h1 hi hs ih =>
  obtain ⟨m, code, joint, hrun, rfl⟩ := hs
  have hok := h1.ok hg
  have h20 := hg.1.2.1
  have hl : (strikesOf n i m.over (a.ts.set i ⟨m.s, (trAt a.ts i).long, m.xs⟩)).length ≤ 20 := by
   unfold strikesOf
   exact Nat.le_trans (strL_len _ _) (Nat.le_trans (List.length_filter_le _ _) (by rw [List.length_range, List.length_set, hok.len]; exact h20))
  refine ⟨?_, by omega⟩
  simp only [List.length_append]
  omega
theorem TickIs.few {n : Nt} {zs : List Int} {ts : List Tr} {vs : List Int} {ok : Bool} {b : TkS} (h : TickIs n zs ts vs ok b) : TkFew b := by
 rcases h with ⟨h1, rfl, h3⟩ | ⟨_, rfl, rfl⟩
 ·have hok := h3.ok h1
  have h20 := h1.1.2.1
  have hs := tickTo_strikes h1 h3
  refine ⟨by rw [hok.len]; exact h20, fun i hi => ?_, by rw [hok.codes]; exact h20, by rw [hok.fars]; exact h20, by omega⟩
  have := (hok.fits _ (List.getElem_mem hi)).2.2.1
  omega
 ·exact ⟨by simp, fun i hi => by simp at hi, by simp, by simp, by simp⟩
theorem TnD.own {w : World} {base : Nat} {a : Option Addr} {m cap : Nat} {ts : List Tr} (h : TnD True w base (.slice a m cap) ts) (hl : ∀ i (h : i < ts.length), ts[i].back.length ≤ 1000) : ∃ (E : Nat → Option Addr) (l C : Nat → Nat) (F : Nat → Value), OwnL w a (ts.length * 5) F ∧ (∀ i, i < ts.length → F (i * 5 + 4) = .slice (E i) (l i) (C i)) ∧ (∀ i, i < ts.length → ∃ g, OwnL w (E i) (l i * 2) g) ∧ (∀ i, i < ts.length → l i ≤ 1000)
  ∧ (∀ i j, i < ts.length → j < ts.length → i ≠ j → ∀ k, blk (E i) k → ¬ blk (E j) k) ∧ (∀ i, i < ts.length → ∀ k, blk (E i) k → (base ≤ k ∧ k < w.heap.size) ∧ IsTy w k 86) ∧ (∀ k, blk a k → (base ≤ k ∧ k < w.heap.size) ∧ IsTy w k 37) := by
 obtain ⟨qs, rfl, h1, h2, h3⟩ := h
 have hlen : (qs.map Prod.fst).length = qs.length := List.length_map _
 haveI : Inhabited (Option Addr) := ⟨none⟩
 have hE : ∀ i, i < qs.length → ∃ p : Option Addr × Nat, ∀ hi : i < qs.length, (qs[i]).2 = .slice p.1 (qs[i]).1.back.length p.2 ∧ StRow w base (qs[i]).2 (qs[i]).1.back := fun i hi => by
  obtain ⟨sa, sc, he, hr⟩ := h2 qs[i] (List.getElem_mem hi)
  exact ⟨(sa, sc), fun _ => ⟨he, hr⟩⟩
 obtain ⟨G, hG⟩ := Deep.choose_lt (n := qs.length) (p := fun i (p : Option Addr × Nat) => ∀ hi : i < qs.length, (qs[i]).2 = .slice p.1 (qs[i]).1.back.length p.2 ∧ StRow w base (qs[i]).2 (qs[i]).1.back) hE
 refine ⟨fun i => (G i).1, fun i => ((qs[i]?).map fun q => q.1.back.length).getD 0, fun i => (G i).2, fun j => ((qs.flatMap tvF)[j]?).getD undef, ?_, fun i hi => ?_, fun i hi => ?_, fun i hi => ?_, fun i j hi hj hij k hk hk' => ?_, fun i hi k hk => ?_, fun k hk => ?_⟩
 ·rw [hlen]
  exact h1.own
 ·rw [hlen] at hi
  dsimp only
  rw [flat_get tvF_len qs i 4 hi (by omega)]
  simp [tvF, List.getElem?_eq_getElem hi]
  exact (hG i hi hi).1
 ·rw [hlen] at hi
  obtain ⟨he, hr⟩ := hG i hi hi
  rw [he] at hr
  simp only [List.getElem?_eq_getElem hi, Option.map_some, Option.getD_some]
  exact ⟨_, hr.own⟩
 ·have hi' : i < qs.length := by rw [← hlen]; exact hi
  have := hl i hi
  simp only [List.getElem?_eq_getElem hi', Option.map_some, Option.getD_some]
  simpa using this
 ·rw [hlen] at hi hj
  have hp := List.pairwise_iff_getElem.1 (h3 trivial)
  have e1 := (hG i hi hi).1
  have e2 := (hG j hj hj).1
  have o1 : (qs[i]).2.ownBlock = some k := by rw [e1]; exact ownBlock_slice hk
  have o2 : (qs[j]).2.ownBlock = some k := by rw [e2]; exact ownBlock_slice hk'
  rcases Nat.lt_or_gt_of_ne hij with h | h
  ·exact hp i j hi hj h k o1 o2
  ·exact hp j i hj hi h k o2 o1
 ·rw [hlen] at hi
  obtain ⟨he, hr⟩ := hG i hi hi
  have o1 : (qs[i]).2.ownBlock = some k := by rw [he]; exact ownBlock_slice hk
  exact ⟨hr.lt k o1, hr.ty o1⟩
 ·have o1 : (Value.slice a m cap).ownBlock = some k := ownBlock_slice hk
  exact ⟨h1.lt k o1, h1.ty o1⟩
theorem tickRet_own {n : Nt} {zs : List Int} {ts : List Tr} {vs : List Int} {base : Nat} {e : Ending} {w : World} (h : TickRet n zs ts vs base e w) : ∃ ok b a c f s m1 m2 m3 m4 E l C, TickIs n zs ts vs ok b ∧ e = .returned (.agg #[.bool ok, .slice a b.ts.length m1, .slice c b.codes.length m2, .slice f b.fars.length m3, .slice s b.strikes.length m4]) ∧ TkRd w base b a c f s m1 m2 m3 m4 ∧ TkOwn w base a c f s b.ts.length b.codes.length b.fars.length b.strikes.length E l C := by
 obtain ⟨ok, b, vt, vc, vf, vk, hi, rfl, h1, h2, h3, hd, h4⟩ := h
 have hfew := hi.few
 obtain ⟨a, m1, rfl, _⟩ := tnRow_at h1.row
 obtain ⟨c, m2, rfl, _, _⟩ := ntRow_at h2
 obtain ⟨f, m3, rfl, _, _⟩ := ntRow_at h3
 obtain ⟨s, m4, rfl, _, _⟩ := skRow_at h4
 obtain ⟨E, l, C, F, q1, q2, q3, q4, q5, q6, q7⟩ := h1.own hfew.2.1
 have tc : ∀ k, blk c k → IsTy w k 3 := fun k hk => h2.ty (ownBlock_slice hk)
 have tf : ∀ k, blk f k → IsTy w k 3 := fun k hk => h3.ty (ownBlock_slice hk)
 have ts' : ∀ k, blk s k → IsTy w k 120 := fun k hk => h4.ty (ownBlock_slice hk)
 have tt : ∀ k, TB a b.ts.length E k → IsTy w k 37 ∨ IsTy w k 86 := fun k hk => by
  rcases hk with hk | ⟨i, hi, hk⟩
  ·exact Or.inl (q7 k hk).2
  ·exact Or.inr (q6 i hi k hk).2
 refine ⟨ok, b, a, c, f, s, m1, m2, m3, m4, E, l, C, hi, rfl, ⟨h1.row, h2, h3, h4⟩, ⟨⟨F, q1, q2⟩, q3, ⟨_, by have := h2.own; rw [Nat.mul_one] at this; exact this⟩, ⟨_, by have := h3.own; rw [Nat.mul_one] at this; exact this⟩, ⟨_, h4.own⟩, ⟨by have := hfew.1; omega, by have := hfew.2.2.1; omega, by have := hfew.2.2.2.1; omega, by have := hfew.2.2.2.2; omega⟩, q4, q5, fun i hi k hk hk' => ?_, fun k hk hk' => ?_, fun k hk hk' => ?_, fun k hk hk' => ?_, fun k hk hk' => ?_, fun k hk hk' => ?_, fun k hk hk' => ?_, fun k hk => ?_⟩⟩
 ·exact absurd ((q6 i hi k hk).2.unique (q7 k hk').2) (by decide)
 ·rcases tt k hk with h | h <;> exact absurd (h.unique (tc k hk')) (by decide)
 ·rcases tt k hk with h | h <;> exact absurd (h.unique (tf k hk')) (by decide)
 ·rcases tt k hk with h | h <;> exact absurd (h.unique (ts' k hk')) (by decide)
 ·have o1 := ownBlock_slice (m := b.codes.length) (cap := m2) hk
  have o2 := ownBlock_slice (m := b.fars.length) (cap := m3) hk'
  rcases hd with hd | hd
  ·rw [hd] at o1; cases o1
  ·exact hd (o1.trans o2.symm)
 ·exact absurd ((tc k hk).unique (ts' k hk')) (by decide)
 ·exact absurd ((tf k hk).unique (ts' k hk')) (by decide)
 ·rcases hk with (hk | ⟨i, hi, hk⟩) | hk | hk | hk
  ·exact (q7 k hk).1
  ·exact (q6 i hi k hk).1
  ·exact h2.lt k (ownBlock_slice hk)
  ·exact h3.lt k (ownBlock_slice hk)
  ·exact h4.lt k (ownBlock_slice hk)
theorem tickRetS_rd {n : Nt} {zs : List Int} {ts : List Tr} {vs : List Int} {base : Nat} {e : Ending} {w : World} (h : TickRetS n zs ts vs base e w) : ∃ ok b a c f s m1 m2 m3 m4, TickIs n zs ts vs ok b ∧ e = .returned (.agg #[.bool ok, .slice a b.ts.length m1, .slice c b.codes.length m2, .slice f b.fars.length m3, .slice s b.strikes.length m4]) ∧ TkRd w base b a c f s m1 m2 m3 m4 := by
 obtain ⟨ok, b, vt, vc, vf, vk, hi, rfl, h1, h2, h3, h4⟩ := h
 obtain ⟨a, m1, rfl, _⟩ := tnRow_at h1
 obtain ⟨c, m2, rfl, _, _⟩ := ntRow_at h2
 obtain ⟨f, m3, rfl, _, _⟩ := ntRow_at h3
 obtain ⟨s, m4, rfl, _, _⟩ := skRow_at h4
 exact ⟨ok, b, a, c, f, s, m1, m2, m3, m4, hi, rfl, h1, h2, h3, h4⟩
theorem eqTicked_rd (ok : Bool) (b : TkS) (a a' c c' f f' s s' : Option Addr) (m1 m1' m2 m2' m3 m3' m4 m4' : Nat) (w : World) {L1 L2 : Nat} (hb : TkFew b) (h1 : TkRd w L1 b a c f s m1 m2 m3 m4) (h2 : TkRd w L2 b a' c' f' s' m1' m2' m3' m4') :
  Calls Tryz.prog 26 #[.agg #[.bool ok, .slice a b.ts.length m1, .slice c b.codes.length m2, .slice f b.fars.length m3, .slice s b.strikes.length m4], .agg #[.bool ok, .slice a' b.ts.length m1', .slice c' b.codes.length m2', .slice f' b.fars.length m3', .slice s' b.strikes.length m4']] w fun e w' => e = .returned (.bool true) ∧ Below w.heap.size w w' := by
 obtain ⟨q1, q2, q3, q4, q5⟩ := hb
 exact eqTicked_any ok b.ts b.codes b.fars b.strikes a a' c c' f f' s s' m1 m1' m2 m2' m3 m3' m4 m4' w (by omega) (fun i hi => by have := q2 i hi; omega) (by omega) (by omega) (by omega) h1.trs h2.trs h1.codes h2.codes h1.fars h2.fars h1.strs h2.strs

end Go.Proofs.YtbdggfpfpjijoabGreatDoor

set_option linter.unusedSimpArgs false
namespace Go.Proofs.YtbdggfpfpjijoabGreatDoor
open Go.RowKit

set_option maxRecDepth 100000 in
set_option maxHeartbeats 16000000 in
theorem lawTick_any (v : Value) (n : Nt) (q : Option Addr) (zs : List Int) (cq : Nat) (tq : Option Addr) (ts : List Tr) (tk : Nat) (vq : Option Addr) (vs : List Int) (vk : Nat) (w : World) {L L1 L2 L3 : Nat} (hv : NetAt L w v n) (hl : n.pieces.length ≤ maxLen) (hl' : n.joints.length ≤ maxLen) (hle : ∀ i (h : i < n.joints.length), n.joints[i].name.size ≤ maxLen ∧ n.joints[i].ends.length ≤ maxLen) (hnm : ∀ i (h : i < n.pieces.length), n.pieces[i].name.size ≤ maxLen)
  (hz : IntsAt L1 w q zs) (hts : TrsIn L2 w tq ts) (htn : ts.length ≤ maxLen) (htb : ∀ i (h : i < ts.length), ts[i].back.length ≤ maxLen) (hvs : IntsAt L3 w vq vs) (hgl : GlobAt w) :
  Calls Tryz.prog 4 #[v, .slice q zs.length cq, .slice tq ts.length tk, .slice vq vs.length vk] w fun e w' => e = .returned (.bool true) ∧ Below w.heap.size w w' := by
 have hvv := hv
 obtain ⟨a, c, ca, cc, rfl, hp, hj⟩ := hv
 by_cases hbig : 1048576 < (zs.length : Int)
 ·go_enter Tryz.func4, Tryz.ntmps4
  go_wp2
  go_ret
  exact ⟨rfl, bw0⟩
 have hzl : zs.length ≤ 1048576 := by omega
 by_cases hbig2 : 1048576 < (vs.length : Int)
 ·go_enter Tryz.func4, Tryz.ntmps4
  go_wp2
  go_ret
  exact ⟨rfl, bw0⟩
 have hvl : vs.length ≤ 1048576 := by omega
 go_enter Tryz.func4, Tryz.ntmps4
 go_wp2_with fail
 refine (szNet_any a c n.pieces n.joints ca cc 1048576 _ (by omega) (by omega) hl (L := L) ?hA hnm hl' ?hB hle).mono ?_
 case hA => exact hp.below bw0
 case hB => exact hj.below bw0
 rintro e w1 ⟨r1, rfl, hr1, hbd1, hb1⟩
 have hbw1 : Below w.heap.size w w1 := below_then bw0 hb1
 have X_1 : Boxed w1 (w.heap.size) [.slice a n.pieces.length ca, .slice c n.joints.length cc] := (boxedN _ _ _ (by simp)).below hb1
 by_cases hneg1 : r1 < 0
 ·go_wp2
  go_ret
  exact ⟨rfl, hbw1⟩
 obtain ⟨k1, k2, k3⟩ := hbd1 (by omega)
 have k1' : n.pieces.length ≤ 1048576 := by omega
 have k2' : n.joints.length ≤ 1048576 := by omega
 have k3' : ∀ i (h : i < n.joints.length), n.joints[i].ends.length ≤ 1048576 := fun i h => by have := k3 i h; omega
 clear k1 k2 k3 hbd1
 go_wp2_with fail
 refine (szTrainS_any tq ts tk r1 _ (by omega) (by omega) htn (hts.below hbw1) htb).mono ?_
 rintro e w2 ⟨r2, rfl, hr2, hbd2, hb2⟩
 have hbw2 := below_then hbw1 hb2
 have X_2 := X_1.below hb2
 by_cases hneg2 : r2 < 0
 ·go_wp2
  go_ret
  exact ⟨rfl, hbw2⟩
 obtain ⟨k4, k5⟩ := hbd2 (by omega)
 have htl : ts.length ≤ 1048576 := by omega
 have htb' : ∀ i (h : i < ts.length), ts[i].back.length ≤ 1048576 := fun i h => by have := k5 i h; omega
 clear k4 k5 hbd2
 have hbm : ∀ t ∈ ts, t.back.length ≤ 1048576 := fun t ht => by
  obtain ⟨i, hi, rfl⟩ := List.getElem_of_mem ht
  exact htb' i hi
 have HK := hide k3'
 have HLE := hide hle
 have HNM := hide hnm
 have HTB := hide htb'
 have HBM := hide hbm
 clear k3' hle hnm htb' hbm htb
 have p0 := X_2.2.1 0 _ rfl
 have p1 := X_2.2.1 1 _ rfl
 have pn := X_2.1
 go_wp2_with fail
 refine (toNet_any _ n _ (hvv.below hbw2) k1' k2' (unhide HK)).mono ?_
 rintro e g1 ⟨gv, rfl, hgv, hbg1⟩
 go_wp2_with fail
 refine (toIntS_any _ zs _ _ hzl ((hz.below hbw2).below hbg1)).mono ?_
 rintro e g2 ⟨gb, rfl, hgz, hbg2⟩
 go_wp2_with fail
 refine (toTrainS_own tq ts tk _ htl (unhide HTB) (((hts.below hbw2).below hbg1).below hbg2)).mono ?_
 rintro e g3 ⟨gta, rfl, hgt, hbg3⟩
 go_wp2_with fail
 refine (toIntS_any _ vs _ _ hvl ((((hvs.below hbw2).below hbg1).below hbg2).below hbg3)).mono ?_
 rintro e g4 ⟨gd, rfl, hgs, hbg4⟩
 go_wp2_with fail
 refine (specTick_any _ n _ ts _ _ zs _ _ vs _ _ (((hgv.below hbg2).below hbg3).below hbg4) (hgt.at.below hbg4) ((hgz.below hbg3).below hbg4) hgs htl (unhide HBM) k1' k2' (fun i h => ⟨unhide HK i h, (unhide HLE i h).1⟩) (unhide HNM)).mono ?_
 rintro e g5 ⟨hret, hbg5⟩
 obtain ⟨ok, b, sa, sc, sf, ss, sm1, sm2, sm3, sm4, his, rfl, hrdS⟩ := tickRetS_rd hret
 have HFEW := hide his.few
 have HIS := hide his
 have hbS0 : Below w2.heap.size w2 g5 := below_then (below_then (below_then (below_then hbg1 hbg2) hbg3) hbg4) hbg5
 have X_5 := X_2.below hbS0
 have hbA : Below g5.heap.size g5 (g5.alloc (.cells #[.bool ok, .slice sa b.ts.length sm1, .slice sc b.codes.length sm2, .slice sf b.fars.length sm3, .slice ss b.strikes.length sm4] 63)) := bw0
 have hBS : Boxed (g5.alloc (.cells #[.bool ok, .slice sa b.ts.length sm1, .slice sc b.codes.length sm2, .slice sf b.fars.length sm3, .slice ss b.strikes.length sm4] 63)) g5.heap.size [.bool ok, .slice sa b.ts.length sm1, .slice sc b.codes.length sm2, .slice sf b.fars.length sm3, .slice ss b.strikes.length sm4] := boxed_alloc _ _ _
 have hbwS := below_then (below_then hbw2 hbS0) hbA
 have X_S := X_5.below hbA
 have HRDS := hide (hrdS.below hbA)
 clear hret his hrdS hgv hgz hgt hgs p0 p1 pn X_5
 have p0 := X_S.2.1 0 _ rfl
 have p1 := X_S.2.1 1 _ rfl
 have pn := X_S.1
 have hlS : g5.heap.size < (g5.alloc (.cells #[.bool ok, .slice sa b.ts.length sm1, .slice sc b.codes.length sm2, .slice sf b.fars.length sm3, .slice ss b.strikes.length sm4] 63)).heap.size := hBS.1
 have HBA := hide hbA
 clear hbA
 generalize hwS : g5.alloc (.cells #[.bool ok, .slice sa b.ts.length sm1, .slice sc b.codes.length sm2, .slice sf b.fars.length sm3, .slice ss b.strikes.length sm4] 63) = wS at *
 go_wp2_with fail
 (try rw [hwS])
 refine (toNet_own _ n _ (hvv.below hbwS) k1' k2' (unhide HK)).mono ?_
 rintro e w_x0 ⟨v_x0, rfl, fO0, hb_x0⟩
 clear p0 p1 pn hwS
 have hbw_x0 := below_then hbwS hb_x0
 have fN0 := fO0.at
 have HO0 := hide fO0
 obtain ⟨xa, xc, rfl, _, _⟩ := fO0
 have hA : Below w_x0.heap.size w_x0 (w_x0.alloc (.cells #[.slice xa n.pieces.length n.pieces.length, .slice xc n.joints.length n.joints.length] 45)) := bw0
 go_wp2_with fail
 refine (toIntS_own q zs cq _ hzl ((hz.below hbw_x0).below hA)).mono ?_
 rintro e w_x1 ⟨z1, zf1, rfl, fZ1, fOz1, fzl1, hb_x1⟩
 have HOZ1 := hide fOz1
 clear fOz1
 have hb'_x1 := below_then hA hb_x1
 have hbw_x1 := below_then hbw_x0 hb'_x1
 have Y_x1 : Boxed w_x1 (w_x0.heap.size) [.slice xa n.pieces.length n.pieces.length, .slice xc n.joints.length n.joints.length] := (boxed_alloc _ _ _).below hb_x1
 have le_1 : w_x0.heap.size < w_x1.heap.size := Y_x1.1
 have fzl1' : w_x0.heap.size ≤ z1 := by have := fzl1.1; simp at this; omega
 go_wp2_with fail
 refine (toTrainS_own tq ts tk _ htl (unhide HTB) (hts.below hbw_x1)).mono ?_
 rintro e w_x2 ⟨ya, rfl, fO2, hb_x2⟩
 have HO2 := hide fO2
 have fT2 := fO2.at
 clear fO2
 have hbw_x2 := below_then hbw_x1 hb_x2
 have Y_x2 := Y_x1.below hb_x2
 go_wp2_with fail
 refine (toIntS_own vq vs vk _ hvl (hvs.below hbw_x2)).mono ?_
 rintro e w_x3 ⟨z3, zf3, rfl, fZ3, fOz3, fzl3, hb_x3⟩
 have HOZ3 := hide fOz3
 clear fOz3
 have hbw_x3 := below_then hbw_x2 hb_x3
 have Y_x3 := Y_x2.below hb_x3
 have hbSx : Below wS.heap.size wS w_x3 := below_then (below_then (below_then hb_x0 hb'_x1) hb_x2) hb_x3
 have y0 := Y_x3.2.1 0 _ rfl
 have y1 := Y_x3.2.1 1 _ rfl
 have yn := Y_x3.1
 have fN3 := ((fN0.below hb'_x1).below hb_x2).below hb_x3
 have fZ3' := (fZ1.below hb_x2).below hb_x3
 have fT3 := fT2.below hb_x3
 go_wp2_with fail
 refine (implTick_any _ n _ ts _ _ zs _ _ vs _ _ fN3 fT3 fZ3' fZ3 htl (unhide HBM) hvl k1' k2' (fun i h => (unhide HLE i h).1) (unhide HNM) (hgl.below hbw_x3).2).mono ?_
 rintro e w_i ⟨hret, hb_i⟩
 obtain ⟨ok1, b1, ga, gc, gf, gs, gm1, gm2, gm3, gm4, E, l, C, hi1, rfl, hrdG, hown⟩ := tickRet_own hret
 obtain ⟨hq1, hq2⟩ := (unhide HIS).unique hi1
 subst hq1
 subst hq2
 have HOWN := hide hown
 have HLO := hide hown.lo
 have hfewG := hown.few
 have HFL := hide hown.fewl
 have HRDG := hide hrdG
 clear hret hi1 hown hrdG y0 y1 yn
 have hbw_i := below_then hbw_x3 hb_i
 have hbSi := below_then hbSx hb_i
 have BS_i := hBS.below hbSi
 have s0 := BS_i.2.1 0 _ rfl
 have s1 := BS_i.2.1 1 _ rfl
 have s2 := BS_i.2.1 2 _ rfl
 have s3 := BS_i.2.1 3 _ rfl
 have s4 := BS_i.2.1 4 _ rfl
 have sl := BS_i.1
 have hbG : Below w_i.heap.size w_i (w_i.alloc (.cells #[.bool ok, .slice ga b.ts.length gm1, .slice gc b.codes.length gm2, .slice gf b.fars.length gm3, .slice gs b.strikes.length gm4] 63)) := bw0
 have hBG : Boxed (w_i.alloc (.cells #[.bool ok, .slice ga b.ts.length gm1, .slice gc b.codes.length gm2, .slice gf b.fars.length gm3, .slice gs b.strikes.length gm4] 63)) w_i.heap.size [.bool ok, .slice ga b.ts.length gm1, .slice gc b.codes.length gm2, .slice gf b.fars.length gm3, .slice gs b.strikes.length gm4] := boxed_alloc _ _ _
 have HBG0 := hide hBG
 have HbG := hide hbG
 clear hBG hbG
 go_wp2_with fail
 refine (eqTicked_rd ok b ga sa gc sc gf sf gs ss gm1 sm1 gm2 sm2 gm3 sm3 gm4 sm4 _ (unhide HFEW) ((unhide HRDG).below (unhide HbG)) (((unhide HRDS).below hbSi).below (unhide HbG))).mono ?_
 rintro e w_q ⟨rfl, hb_q⟩
 clear s0 s1 s2 s3 s4 sl BS_i
 have hb_iq := below_then (unhide HbG) hb_q
 have hb_2q := below_then hb_i hb_iq
 have hbw_q := below_then hbw_i hb_iq
 have BG_q := (unhide HBG0).below hb_q
 have Y_q := Y_x3.below hb_2q
 have X_q := (X_S.below hbSx).below hb_2q
 have fN_q := fN3.below hb_2q
 clear HBG0 HbG hb_q
 have p0 := X_q.2.1 0 _ rfl
 have p1 := X_q.2.1 1 _ rfl
 have pn := X_q.1
 have y0 := Y_q.2.1 0 _ rfl
 have y1 := Y_q.2.1 1 _ rfl
 have yn := Y_q.1
 go_upto_region 20 with fail
 go_cut [66] (fun b wx => b = .bool false ∧ Below w_q.heap.size w_q wx)
 case first =>
  go_region_held3 (fun w' => w'.cell? ⟨w.heap.size, 0, none⟩ = some (.slice a n.pieces.length ca) ∧ w'.cell? ⟨w.heap.size, 1, none⟩ = some (.slice c n.joints.length cc) ∧ w'.cell? ⟨w_x0.heap.size, 0, none⟩ = some (.slice xa n.pieces.length n.pieces.length) ∧ w'.cell? ⟨w_x0.heap.size, 1, none⟩ = some (.slice xc n.joints.length n.joints.length)) (((try dsimp only); (repeat' apply And.intro)) <;> (go_keep; done))
   (first
    | (go_at_call 9; refine (toNet_any _ n _ (hvv.below (below_then hbw_q bw0)) k1' k2' (unhide HK)).mono ?_; rintro e w_e0a ⟨v_e0a, rfl, hv_e0a, hb_e0a⟩; obtain ⟨hc_e0a, hf_e0a⟩ := bcell hb_e0a; have sz_e0a := hb_e0a.size; (try simp at sz_e0a); have qq0 := hc_e0a (w.heap.size) (0) (by first | (simp; done) | (simp; omega) | omega); have qq1 := hc_e0a (w.heap.size) (1) (by first | (simp; done) | (simp; omega) | omega); have qq2 := hc_e0a (w_x0.heap.size) (0) (by first | (simp; done) | (simp; omega) | omega); have qq3 := hc_e0a (w_x0.heap.size) (1) (by first | (simp; done) | (simp; omega) | omega))
    | (go_at_call 14; refine (eqNet_any _ _ n _ k1' k2' (unhide HK) (fN_q.below (below_then bw0 hb_e0a)) hv_e0a).mono ?_; rintro e w_e0b ⟨rfl, hb_e0b⟩; obtain ⟨hc_e0b, hf_e0b⟩ := bcell hb_e0b; have rr0 := hc_e0b (w.heap.size) (0) (by first | (have := hb_e0a.size; omega) | (have := hb_e0a.size; simp at this ⊢; omega) | (simp; omega)); have rr1 := hc_e0b (w.heap.size) (1) (by first | (have := hb_e0a.size; omega) | (have := hb_e0a.size; simp at this ⊢; omega) | (simp; omega)); have rr2 := hc_e0b (w_x0.heap.size) (0) (by first | (have := hb_e0a.size; omega) | (have := hb_e0a.size; simp at this ⊢; omega) | (simp; omega)); have rr3 := hc_e0b (w_x0.heap.size) (1) (by first | (have := hb_e0a.size; omega) | (have := hb_e0a.size; simp at this ⊢; omega) | (simp; omega))))
  all_goals go_wp2_with fail
  all_goals go_meet
  all_goals exact ⟨rfl, below_then (below_then bw0 hb_e0a) hb_e0b⟩
 case rest =>
  obtain ⟨rfl, hb_e0⟩ := hcut
  clear p0 p1 y0 y1 pn yn
  have hbw_e0 := below_then hbw_q hb_e0
  have hb_2e := below_then hb_2q hb_e0
  go_wp2_with fail
  refine (toIntS_any q zs cq _ hzl (hz.below hbw_e0)).mono ?_
  rintro e w_f1 ⟨fa, rfl, hfz, hb_f1⟩
  have hbw_f1 := below_then hbw_e0 hb_f1
  have hb_2f1 := below_then hb_2e hb_f1
  go_wp2_with fail
  refine (eqIntS_any _ _ zs _ _ _ hzl (fZ3'.below hb_2f1) hfz).mono ?_
  rintro e w_f2 ⟨rfl, hb_f2⟩
  have hbw_f2 := below_then hbw_f1 hb_f2
  have hb_2f2 := below_then hb_2f1 hb_f2
  go_wp2_with fail
  refine (toTrainS_own tq ts tk _ htl (unhide HTB) (hts.below hbw_f2)).mono ?_
  rintro e w_f3 ⟨fb, rfl, hft, hb_f3⟩
  have hbw_f3 := below_then hbw_f2 hb_f3
  have hb_2f3 := below_then hb_2f2 hb_f3
  go_wp2_with fail
  refine (eqTrainS_any _ _ ts _ _ _ htl (unhide HTB) (fT3.below hb_2f3).in hft.at.in).mono ?_
  rintro e w_f4 ⟨rfl, hb_f4⟩
  have hbw_f4 := below_then hbw_f3 hb_f4
  have hb_2f4 := below_then hb_2f3 hb_f4
  go_wp2_with fail
  refine (toIntS_any vq vs vk _ hvl (hvs.below hbw_f4)).mono ?_
  rintro e w_f5 ⟨fc, rfl, hfv, hb_f5⟩
  have hbw_f5 := below_then hbw_f4 hb_f5
  have hb_2f5 := below_then hb_2f4 hb_f5
  go_wp2_with fail
  refine (eqIntS_any _ _ vs _ _ _ hvl (fZ3.below hb_2f5) hfv).mono ?_
  rintro e w_f ⟨rfl, hb_f6⟩
  have hbw_f := below_then hbw_f5 hb_f6
  have hb_2f := below_then hb_2f5 hb_f6
  have hb_qf := below_then (below_then (below_then (below_then (below_then (below_then hb_e0 hb_f1) hb_f2) hb_f3) hb_f4) hb_f5) hb_f6
  have hb_if := below_then hb_iq hb_qf
  have hbT := below_then hbSx hb_2f
  have BG_f := BG_q.below hb_qf
  have Y_f := Y_q.below hb_qf
  have rG_f := (unhide HRDG).below hb_if
  have oG_f := (unhide HOWN).below hb_if
  clear hfz hft hfv
  have mo0 := ((unhide HO0).below hb'_x1 (Nat.le_refl _)).below (below_then (below_then hb_x2 hb_x3) hb_2f) (Nat.le_of_lt le_1)
  have mo1 := (((unhide HOZ1).below hb_x2).below hb_x3).below hb_2f
  have mo2 := (unhide HO2).stays (stays_below (below_then hb_x3 hb_2f) (Nat.le_refl _))
  have mo3 := (unhide HOZ3).below hb_2f
  have le_x0 : wS.heap.size ≤ w_x0.heap.size := hb_x0.size
  have le_x2 : w_x1.heap.size ≤ w_x2.heap.size := hb_x2.size
  have le_x3 : w_x2.heap.size ≤ w_x3.heap.size := hb_x3.size
  have lb : w.heap.size < wS.heap.size := X_S.1
  have lc : w_x3.heap.size ≤ w_f.heap.size := hb_2f.size
  have li : w_x3.heap.size ≤ w_i.heap.size := hb_i.size
  have lif : w_i.heap.size < w_f.heap.size := BG_f.1
  have lz1 := fzl1.2
  have lz3 := fzl3
  have bz1 : ∀ k, blk (some ⟨z1, 0, none⟩) k → k = z1 := fun k ⟨b', off', h1, h2⟩ => by
   simp only [Option.some.injEq, Addr.mk.injEq, and_true] at h1
   omega
  have bz3 : ∀ k, blk (some ⟨z3, 0, none⟩) k → k = z3 := fun k ⟨b', off', h1, h2⟩ => by
   simp only [Option.some.injEq, Addr.mk.injEq, and_true] at h1
   omega
  have y0 := Y_f.2.1 0 _ rfl
  have y1 := Y_f.2.1 1 _ rfl
  go_wp2_with fail
  refine (markNet_any _ n _ _ 1 _ mo0 k1' k2' (unhide HK) (by omega) (by omega)).mono ?_
  rintro e w_m0 ⟨rr0, rfl, hra0, hrb0, on0⟩
  clear y0 y1
  have hbw_m0 := hbw_f.trans (on0.below hbw_f.size (fun k hk h => by have := h.1; omega))
  have hbT_0 := hbT.trans (on0.below hbT.size (fun k hk h => by have := h.1; omega))
  have mo1_0 := mo1.only on0 (fun k hk h => by have := bz1 k hk; have := h.2; omega)
  have mo2_0 := mo2.stays (on0.stays (by omega) (fun k h1 h2 h => by have := h.2; omega))
  have mo3_0 := mo3.only on0 (fun k hk h => by have := bz3 k hk; have := h.2; omega)
  have rG_0 := rG_f.blocks (fun k h1 h2 => on0.block k h2 (fun h => by have := h.2; omega))
  have oG_0 := oG_f.only on0 (fun k hk h => by have := unhide HLO k hk; have := h.2; omega)
  have BG_0 := BG_f.onlyS on0 (fun h => by have := h.2; omega)
  have lm0 := on0.size
  go_wp2_with fail
  refine (markIntS_any _ _ _ rr0 zf1 _ hzl (by omega) (by omega) mo1_0).mono ?_
  rintro e w_m1 ⟨rfl, _, on1⟩
  have hbw_m1 := hbw_m0.trans (on1.below hbw_m0.size (fun k hk h => by have := bz1 k h; omega))
  have hbT_1 := hbT_0.trans (on1.below hbT_0.size (fun k hk h => by have := bz1 k h; omega))
  have mo2_1 := mo2_0.stays (on1.stays (by omega) (fun k h1 h2 h => by have := bz1 k h; omega))
  have mo3_1 := mo3_0.only on1 (fun k hk h => by have := bz3 k hk; have := bz1 k h; omega)
  have rG_1 := rG_0.blocks (fun k h1 h2 => on1.block k h2 (fun h => by have := bz1 k h; omega))
  have oG_1 := oG_0.only on1 (fun k hk h => by have := unhide HLO k hk; have := bz1 k h; omega)
  have BG_1 := BG_0.onlyS on1 (fun h => by have := bz1 _ h; omega)
  have lm1 := on1.size
  obtain ⟨K1, hK1⟩ : ∃ K1 : Int, rr0 + (zs.length : Int) = K1 := ⟨_, rfl⟩
  rw [hK1]
  have hK1b : 0 ≤ K1 ∧ K1 ≤ 20000000000000 := by omega
  clear hK1
  go_wp2_with fail
  refine (markTrsOwn_any _ ts _ _ _ K1 _ mo2_1 htl (unhide HTB) (by omega) (by omega)).mono ?_
  rintro e w_m2 ⟨rr2, rfl, hra2, hrb2, on2⟩
  have hbw_m2 := hbw_m1.trans (on2.below hbw_m1.size (fun k hk h => by have := h.1; omega))
  have hbT_2 := hbT_1.trans (on2.below hbT_1.size (fun k hk h => by have := h.1; omega))
  have mo3_2 := mo3_1.only on2 (fun k hk h => by have := bz3 k hk; have := h.2; omega)
  have rG_2 := rG_1.blocks (fun k h1 h2 => on2.block k h2 (fun h => by have := h.2; omega))
  have oG_2 := oG_1.only on2 (fun k hk h => by have := unhide HLO k hk; have := h.2; omega)
  have BG_2 := BG_1.onlyS on2 (fun h => by have := h.2; omega)
  have lm2 := on2.size
  go_wp2_with fail
  refine (markIntS_any _ _ _ rr2 zf3 _ hvl (by omega) (by omega) mo3_2).mono ?_
  rintro e w_m3 ⟨rfl, _, on3⟩
  have hbw_m3 := hbw_m2.trans (on3.below hbw_m2.size (fun k hk h => by have := bz3 k h; omega))
  have hbT_3 := hbT_2.trans (on3.below hbT_2.size (fun k hk h => by have := bz3 k h; omega))
  have rG_3 := rG_2.blocks (fun k h1 h2 => on3.block k h2 (fun h => by have := bz3 k h; omega))
  have oG_3 := oG_2.only on3 (fun k hk h => by have := unhide HLO k hk; have := bz3 k h; omega)
  have BG_3 := BG_2.onlyS on3 (fun h => by have := bz3 _ h; omega)
  have lm3 := on3.size
  obtain ⟨K3, hK3⟩ : ∃ K3 : Int, rr2 + (vs.length : Int) = K3 := ⟨_, rfl⟩
  rw [hK3]
  have hK3b : ¬ K3 < 0 := by omega
  have hK3c : decide (K3 < 0) = false := by simpa using hK3b
  clear hK3
  have BS_3 := hBS.below hbT_3
  have g0 := BG_3.2.1 0 _ rfl
  have g1' := BG_3.2.1 1 _ rfl
  have g2' := BG_3.2.1 2 _ rfl
  have g3' := BG_3.2.1 3 _ rfl
  have g4' := BG_3.2.1 4 _ rfl
  have gl := BG_3.1
  have s0 := BS_3.2.1 0 _ rfl
  have s1 := BS_3.2.1 1 _ rfl
  have s2 := BS_3.2.1 2 _ rfl
  have s3 := BS_3.2.1 3 _ rfl
  have s4 := BS_3.2.1 4 _ rfl
  have sl := BS_3.1
  have HOG3 := hide oG_3
  have HRG3 := hide rG_3
  clear oG_3 rG_3 oG_f oG_0 oG_1 oG_2 rG_f rG_0 rG_1 rG_2 mo0 mo1 mo2 mo3 mo1_0 mo2_0 mo3_0 mo2_1 mo3_1 mo3_2
  go_wp2_with fail
  refine (eqTicked_rd ok b ga sa gc sc gf sf gs ss gm1 sm1 gm2 sm2 gm3 sm3 gm4 sm4 _ (unhide HFEW) (unhide HRG3) ((unhide HRDS).below hbT_3)).mono ?_
  rintro e w_r ⟨rfl, hb_r⟩
  clear g0 g1' g2' g3' g4' gl s0 s1 s2 s3 s4 sl hK3b hK3c
  have hbw_r := below_then hbw_m3 hb_r
  have hbT_r := hbT_3.trans (hb_r.mono hbT_3.size)
  have BG_r := BG_3.below hb_r
  have lr := hb_r.size
  have g0 := BG_r.2.1 0 _ rfl
  have g1' := BG_r.2.1 1 _ rfl
  have g2' := BG_r.2.1 2 _ rfl
  have g3' := BG_r.2.1 3 _ rfl
  have g4' := BG_r.2.1 4 _ rfl
  have gl := BG_r.1
  go_wp2_with fail
  refine (markTicked_any ok ga gc gf gs _ _ _ _ gm1 gm2 gm3 gm4 E l C 1 _ (by omega) (by omega) ((unhide HOG3).below hb_r)).mono ?_
  rintro e w_mg ⟨rfl, hheld, onG⟩
  have hpos := posT_le (k0 := 1) (l := l) (n := b.ts.length) (unhide HFL)
  obtain ⟨M, hM⟩ : ∃ M : Int, posT 1 l b.ts.length + (b.codes.length : Int) + (b.fars.length : Int) + (b.strikes.length : Int) * 2 = M := ⟨_, rfl⟩
  rw [hM]
  have hM0 : ¬ M < 0 := by omega
  have HM := hide hM
  have HHELD := hide hheld
  clear hM hheld g0 g1' g2' g3' g4' gl
  have hbw_mg := hbw_r.trans (onG.below hbw_r.size (fun k hk h => by have := unhide HLO k h; omega))
  have hbT_mg := hbT_r.trans (onG.below hbT_r.size (fun k hk h => by have := unhide HLO k h; omega))
  have BG_mg := BG_r.onlyS onG (fun h => by have := unhide HLO _ h; omega)
  have g0 := BG_mg.2.1 0 _ rfl
  have g1' := BG_mg.2.1 1 _ rfl
  have g2' := BG_mg.2.1 2 _ rfl
  have g3' := BG_mg.2.1 3 _ rfl
  have g4' := BG_mg.2.1 4 _ rfl
  have gl := BG_mg.1
  go_wp2_with fail
  refine (heldTicked_any ok ga gc gf gs _ _ _ _ gm1 gm2 gm3 gm4 E l C 1 _ (by omega) (by omega) hfewG (unhide HFL) (unhide HHELD)).mono ?_
  rintro e w_hd ⟨rfl, hb_hd⟩
  rw [unhide HM]
  clear g0 g1' g2' g3' g4' gl
  have hbw_hd := below_then hbw_mg hb_hd
  have hbT_hd := hbT_mg.trans (hb_hd.mono hbT_mg.size)
  have BG_hd := BG_mg.below hb_hd
  have X_hd := X_S.below hbT_hd
  have HHELD2 := hide ((unhide HHELD).below hb_hd)
  have p0 := X_hd.2.1 0 _ rfl
  have p1 := X_hd.2.1 1 _ rfl
  have pn := X_hd.1
  have hMM : ¬ M ≠ M := fun h => h rfl
  go_wp2_with fail
  refine (toNet_any _ n _ (hvv.below hbw_hd) k1' k2' (unhide HK)).mono ?_
  rintro e h1 ⟨hv1, rfl, hhv, hbh1⟩
  go_wp2_with fail
  refine (toIntS_any _ zs _ _ hzl ((hz.below hbw_hd).below hbh1)).mono ?_
  rintro e h2 ⟨hza, rfl, hhz, hbh2⟩
  go_wp2_with fail
  refine (toTrainS_own tq ts tk _ htl (unhide HTB) (((hts.below hbw_hd).below hbh1).below hbh2)).mono ?_
  rintro e h3 ⟨hta, rfl, hht, hbh3⟩
  go_wp2_with fail
  refine (toIntS_any _ vs _ _ hvl ((((hvs.below hbw_hd).below hbh1).below hbh2).below hbh3)).mono ?_
  rintro e h4 ⟨hva, rfl, hhs, hbh4⟩
  go_wp2_with fail
  have hbh14 := below_then (below_then (below_then hbh1 hbh2) hbh3) hbh4
  refine (implTick_any _ n _ ts _ _ zs _ _ vs _ _ (((hhv.below hbh2).below hbh3).below hbh4) (hht.at.below hbh4) ((hhz.below hbh3).below hbh4) hhs htl (unhide HBM) hvl k1' k2' (fun i h => (unhide HLE i h).1) (unhide HNM) (hgl.below (below_then hbw_hd hbh14)).2).mono ?_
  rintro e w_h ⟨hret, hbh5⟩
  obtain ⟨ok2, b2, ja, jc, jf, js, jm1, jm2, jm3, jm4, E2, l2, C2, hi2, rfl, hrdH, _⟩ := tickRet_own hret
  obtain ⟨hq1, hq2⟩ := (unhide HIS).unique hi2
  subst hq1
  subst hq2
  have HRDH := hide hrdH
  have hbH : Below w_hd.heap.size w_hd w_h := below_then hbh14 hbh5
  have hbw_h := below_then hbw_hd hbH
  have hbT_h := hbT_hd.trans (hbH.mono hbT_hd.size)
  clear hret hi2 hrdH p0 p1 pn hhv hhz hht hhs
  have BS_h := hBS.below hbT_h
  have s0 := BS_h.2.1 0 _ rfl
  have s1 := BS_h.2.1 1 _ rfl
  have s2 := BS_h.2.1 2 _ rfl
  have s3 := BS_h.2.1 3 _ rfl
  have s4 := BS_h.2.1 4 _ rfl
  have sl := BS_h.1
  have hbJ : Below w_h.heap.size w_h (w_h.alloc (.cells #[.bool ok, .slice ja b.ts.length jm1, .slice jc b.codes.length jm2, .slice jf b.fars.length jm3, .slice js b.strikes.length jm4] 63)) := bw0
  have HBJ := hide hbJ
  clear hbJ
  go_wp2_with fail
  refine (eqTicked_rd ok b ja sa jc sc jf sf js ss jm1 sm1 jm2 sm2 jm3 sm3 jm4 sm4 _ (unhide HFEW) ((unhide HRDH).below (unhide HBJ)) (((unhide HRDS).below hbT_h).below (unhide HBJ))).mono ?_
  rintro e w_s ⟨rfl, hb_s⟩
  clear s0 s1 s2 s3 s4 sl
  have hb_hs := below_then (unhide HBJ) hb_s
  have hbw_s := below_then hbw_h hb_hs
  have BG_s := (BG_hd.below hbH).below hb_hs
  have g0 := BG_s.2.1 0 _ rfl
  have g1' := BG_s.2.1 1 _ rfl
  have g2' := BG_s.2.1 2 _ rfl
  have g3' := BG_s.2.1 3 _ rfl
  have g4' := BG_s.2.1 4 _ rfl
  have gl := BG_s.1
  go_wp2_with fail
  refine (heldTicked_any ok ga gc gf gs _ _ _ _ gm1 gm2 gm3 gm4 E l C 1 _ (by omega) (by omega) hfewG (unhide HFL) (((unhide HHELD2).below hbH).below hb_hs)).mono ?_
  rintro e w_z ⟨rfl, hb_z⟩
  rw [unhide HM]
  have hbw_z := below_then hbw_s hb_z
  go_wp2
  go_ret
  exact ⟨rfl, hbw_z⟩

end Go.Proofs.YtbdggfpfpjijoabGreatDoor

