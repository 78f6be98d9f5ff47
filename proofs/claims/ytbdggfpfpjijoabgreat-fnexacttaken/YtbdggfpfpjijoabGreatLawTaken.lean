import Derived.Test.YtbdggfpfpjijoabGreatG1
import Derived.Test.YtbdggfpfpjijoabGreatEq
import Derived.Test.YtbdggfpfpjijoabGreatG6
import Derived.Test.YtbdggfpfpjijoabGreatG32
import Derived.Test.YtbdggfpfpjijoabGreatSpec19
namespace Go.Proofs.YtbdggfpfpjijoabGreat
open Go.RowKit

theorem ntRow_ints {w : World} {base : Nat} {a : Option Addr} {m cap : Nat} {zs : List Int} (h : NtRow w base (.slice a m cap) zs) : IntsAt 0 w a zs := by
  obtain ⟨a', cap', hv, _, hx⟩ := ntRow_at (h.mono (Nat.zero_le _))
  injection hv with h1 h2 h3
  subst h1
  exact hx

theorem ntRow_own {w : World} {base : Nat} {a : Option Addr} {m cap : Nat} {zs : List Int} (h : NtRow w base (.slice a m cap) zs) : ∃ f, OwnL w a zs.length f := by
  have := h.own
  rw [Nat.mul_one] at this
  exact ⟨_, this⟩

theorem TrsOwn.below {L U : Nat} {w w' : World} {a : Option Addr} {ts : List Tr} (h : TrsOwn L U w a ts) (hb : Below w.heap.size w w') (hU : U ≤ w.heap.size) : TrsOwn L U w' a ts := h.stays (stays_below hb hU)

set_option maxRecDepth 100000 in
set_option maxHeartbeats 8000000 in
theorem lawTaken_any (v : Value) (n : Nt) (tq : Option Addr) (ts : List Tr) (tk : Nat) (pq : Option Addr) (ps : List Pt) (pk : Nat) (w : World) {L L1 L2 : Nat} (hv : NetAt L w v n) (hl : n.pieces.length ≤ maxLen) (hl' : n.joints.length ≤ maxLen) (hle : ∀ i (h : i < n.joints.length), n.joints[i].name.size ≤ maxLen ∧ n.joints[i].ends.length ≤ maxLen) (hnm : ∀ i (h : i < n.pieces.length), n.pieces[i].name.size ≤ maxLen)
    (hts : TrsIn L1 w tq ts) (htn : ts.length ≤ maxLen) (htb : ∀ i (h : i < ts.length), ts[i].back.length ≤ maxLen) (hps : PtsAt L2 w pq ps) (hpn : ps.length ≤ maxLen) :
    Calls Tryz.prog 5 #[v, .slice tq ts.length tk, .slice pq ps.length pk] w fun e w' => e = .returned (.bool true) ∧ Below w.heap.size w w' := by
  have hvv := hv
  obtain ⟨a, c, ca, cc, rfl, hp, hj⟩ := hv
  go_enter Tryz.func5, Tryz.ntmps5
  go_wp2_with fail
  refine (szNet_any a c n.pieces n.joints ca cc 1048576 _ (by omega) (by omega) hl (L := L) ?hA hnm hl' ?hB hle).mono ?_
  case hA => exact hp.below (by repeat (first | with_reducible exact Below.refl _ _ | refine Below.setCell ?_ (by first | omega | (simp <;> omega) | (simp [World.setCell] <;> omega)) _ | refine Below.alloc ?_ (by first | omega | (simp <;> omega) | (simp [World.setCell] <;> omega)) _ | refine Below.drew ?_ | refine below_draws ?_ _ | exact Below.refl _ _))
  case hB => exact hj.below (by repeat (first | with_reducible exact Below.refl _ _ | refine Below.setCell ?_ (by first | omega | (simp <;> omega) | (simp [World.setCell] <;> omega)) _ | refine Below.alloc ?_ (by first | omega | (simp <;> omega) | (simp [World.setCell] <;> omega)) _ | refine Below.drew ?_ | refine below_draws ?_ _ | exact Below.refl _ _))
  rintro e w1 ⟨r1, rfl, hr1, hbd1, hb1⟩
  have hbw1 : Below w.heap.size w w1 := below_then (by repeat (first | with_reducible exact Below.refl _ _ | refine Below.setCell ?_ (by first | omega | (simp <;> omega) | (simp [World.setCell] <;> omega)) _ | refine Below.alloc ?_ (by first | omega | (simp <;> omega) | (simp [World.setCell] <;> omega)) _ | refine Below.drew ?_ | refine below_draws ?_ _ | exact Below.refl _ _)) hb1
  have X_1 : Boxed w1 (w.heap.size) [.slice a n.pieces.length ca, .slice c n.joints.length cc] := (boxedN _ _ _ (by simp)).below hb1
  by_cases hneg1 : r1 < 0
  · go_wp2
    go_ret
    exact ⟨rfl, hbw1⟩
  obtain ⟨k1, k2, k3⟩ := hbd1 (by omega)
  have k1' : n.pieces.length ≤ 1048576 := by omega
  have k2' : n.joints.length ≤ 1048576 := by omega
  have k3' : ∀ i (h : i < n.joints.length), n.joints[i].ends.length ≤ 1048576 := fun i h => by have := k3 i h; omega
  clear k1 k2 k3 hbd1
  go_wp2_with fail
  refine (szTrainS_any tq ts tk r1 _ (by omega) (by omega) htn (hts.below hbw1) htb).mono ?_
  rintro e w2 ⟨r2, rfl, hr2, hbd2, hb2⟩
  have hbw2 := below_then hbw1 hb2
  have X_2 := X_1.below hb2
  by_cases hneg2 : r2 < 0
  · go_wp2
    go_ret
    exact ⟨rfl, hbw2⟩
  obtain ⟨k4, k5⟩ := hbd2 (by omega)
  have htl : ts.length ≤ 1048576 := by omega
  have htb' : ∀ i (h : i < ts.length), ts[i].back.length ≤ 1048576 := fun i h => by have := k5 i h; omega
  clear k4 k5 hbd2
  go_wp2_with fail
  refine (szPartS_any pq ps.length pk r2 _ (by omega) (by omega) hpn).mono ?_
  rintro e w3 ⟨r3, rfl, hr3, hbd3, hb3⟩
  have hbw3 := below_then hbw2 hb3
  have X_3 := X_2.below hb3
  by_cases hneg3 : r3 < 0
  · go_wp2
    go_ret
    exact ⟨rfl, hbw3⟩
  have hpl : ps.length ≤ 1048576 := by have := hbd3 (by omega); omega
  clear hbd3
  have hbm : ∀ t ∈ ts, t.back.length ≤ 1048576 := fun t ht => by
    obtain ⟨i, hi, rfl⟩ := List.getElem_of_mem ht
    exact htb' i hi
  have HK := hide k3'
  have HLE := hide hle
  have HNM := hide hnm
  have HTB := hide htb'
  have HBM := hide hbm
  clear k3' hle hnm htb' hbm htb
  have p0 := X_3.2.1 0 _ rfl
  have p1 := X_3.2.1 1 _ rfl
  have pn := X_3.1
  go_wp2_with fail
  refine (toNet_any _ n _ (hvv.below hbw3) k1' k2' (unhide HK)).mono ?_
  rintro e g1 ⟨gv, rfl, hgv, hbg1⟩
  go_wp2_with fail
  refine (toTrainS_own tq ts tk _ htl (unhide HTB) ((hts.below hbw3).below hbg1)).mono ?_
  rintro e g2 ⟨ga, rfl, hgt, hbg2⟩
  go_wp2_with fail
  refine (toPartS_own pq ps pk _ hpl (((hps.below hbw3).below hbg1).below hbg2)).mono ?_
  rintro e g3 ⟨gb, rfl, hgp, hbg3⟩
  go_wp2_with fail
  refine (specTaken_any _ n _ ts _ _ ps _ _ ((hgv.below hbg2).below hbg3) (hgt.at.below hbg3) hgp.at htl (unhide HBM) hpl k1' k2' (fun i h => ⟨unhide HK i h, (unhide HLE i h).1⟩) (unhide HNM)).mono ?_
  rintro e w_gs ⟨⟨pa, pcap, zs, hzs, rfl, hrowS⟩, hbgs⟩
  have HZS := hide hzs
  have HRS := hide hrowS
  clear hzs hrowS hgv hgt hgp p0 p1 pn
  have hbS : Below w3.heap.size w3 w_gs := below_then (below_then (below_then hbg1 hbg2) hbg3) hbgs
  have hbwS := below_then hbw3 hbS
  have X_S := X_3.below hbS
  have p0 := X_S.2.1 0 _ rfl
  have p1 := X_S.2.1 1 _ rfl
  have pn := X_S.1
  go_wp2_with fail
  refine (toNet_own _ n _ (hvv.below hbwS) k1' k2' (unhide HK)).mono ?_
  rintro e w_x0 ⟨v_x0, rfl, fO0, hb_x0⟩
  clear p0 p1 pn
  have hbw_x0 := below_then hbwS hb_x0
  have X_x0 := X_S.below hb_x0
  have fN0 := fO0.at
  have HO0 := hide fO0
  obtain ⟨xa, xc, rfl, _, _⟩ := fO0
  have hA : Below w_x0.heap.size w_x0 (w_x0.alloc (.cells #[.slice xa n.pieces.length n.pieces.length, .slice xc n.joints.length n.joints.length] 41)) := (by repeat (first | with_reducible exact Below.refl _ _ | refine Below.setCell ?_ (by first | omega | (simp <;> omega) | (simp [World.setCell] <;> omega)) _ | refine Below.alloc ?_ (by first | omega | (simp <;> omega) | (simp [World.setCell] <;> omega)) _ | refine Below.drew ?_ | refine below_draws ?_ _ | exact Below.refl _ _))
  go_wp2_with fail
  refine (toTrainS_own tq ts tk _ htl (unhide HTB) ((hts.below hbw_x0).below hA)).mono ?_
  rintro e w_x1 ⟨ya, rfl, fO1, hb_x1⟩
  have HO1 := hide fO1
  have fT1 := fO1.at
  clear fO1
  have hb'_x1 := below_then hA hb_x1
  have hbw_x1 := below_then hbw_x0 hb'_x1
  have X_x1 := X_x0.below hb'_x1
  have Y_x1 : Boxed w_x1 (w_x0.heap.size) [.slice xa n.pieces.length n.pieces.length, .slice xc n.joints.length n.joints.length] := (boxed_alloc _ _ _).below hb_x1
  have le_1 : w_x0.heap.size < w_x1.heap.size := Y_x1.1
  go_wp2_with fail
  refine (toPartS_own pq ps pk _ hpl (hps.below hbw_x1)).mono ?_
  rintro e w_x2 ⟨yb, rfl, fO2, hb_x2⟩
  have HO2 := hide fO2
  have fP2 := fO2.at
  clear fO2
  have hbw_x2 := below_then hbw_x1 hb_x2
  have X_x2 := X_x1.below hb_x2
  have Y_x2 := Y_x1.below hb_x2
  have y0 := Y_x2.2.1 0 _ rfl
  have y1 := Y_x2.2.1 1 _ rfl
  have yn := Y_x2.1
  go_wp2_with fail
  refine (implTaken_any _ n _ ts _ _ ps _ _ ((fN0.below hb'_x1).below hb_x2) (fT1.below hb_x2) fP2 htl (unhide HBM) hpl k1' k2' (fun i h => (unhide HLE i h).1) (unhide HNM)).mono ?_
  rintro e w_i ⟨⟨qa, qcap, zs1, hzs1, rfl, hrowG⟩, hb_i⟩
  have hq1 : zs = zs1 := (unhide HZS).unique hzs1
  subst hq1
  have hzl := (unhide HZS).len
  have HRG := hide hrowG
  clear hzs1 hrowG y0 y1 yn
  have hbw_i := below_then hbw_x2 hb_i
  have rU := (unhide HRS).below (below_then (below_then (below_then hb_x0 hb'_x1) hb_x2) hb_i)
  have hb_2i := hb_i
  go_wp2_with fail
  refine (eqIntS_any _ _ zs _ _ _ (by omega) (ntRow_ints (unhide HRG)) (ntRow_ints rU)).mono ?_
  rintro e w_q ⟨rfl, hb_q⟩
  have hb_2q := below_then hb_i hb_q
  have hbw_q := below_then hbw_i hb_q
  have X_q := X_x2.below hb_2q
  have Y_q := Y_x2.below hb_2q
  have fN_q := ((fN0.below hb'_x1).below hb_x2).below hb_2q
  have rU_q := rU.below hb_q
  have rG_q := (unhide HRG).below hb_q
  clear rU
  have p0 := X_q.2.1 0 _ rfl
  have p1 := X_q.2.1 1 _ rfl
  have pn := X_q.1
  have y0 := Y_q.2.1 0 _ rfl
  have y1 := Y_q.2.1 1 _ rfl
  have yn := Y_q.1
  go_upto_region 18 with fail
  go_cut [57] (fun b wx => b = .bool false ∧ Below w_q.heap.size w_q wx)
  case first =>
    go_region_held3 (fun w' => w'.cell? ⟨w.heap.size, 0, none⟩ = some (.slice a n.pieces.length ca) ∧ w'.cell? ⟨w.heap.size, 1, none⟩ = some (.slice c n.joints.length cc) ∧ w'.cell? ⟨w_x0.heap.size, 0, none⟩ = some (.slice xa n.pieces.length n.pieces.length) ∧ w'.cell? ⟨w_x0.heap.size, 1, none⟩ = some (.slice xc n.joints.length n.joints.length)) (((try dsimp only); (repeat' apply And.intro)) <;> (go_keep; done))
      (first
        | (go_at_call 9; refine (toNet_any _ n _ (hvv.below (below_then hbw_q (by repeat (first | with_reducible exact Below.refl _ _ | refine Below.setCell ?_ (by first | omega | (simp <;> omega) | (simp [World.setCell] <;> omega)) _ | refine Below.alloc ?_ (by first | omega | (simp <;> omega) | (simp [World.setCell] <;> omega)) _ | refine Below.drew ?_ | refine below_draws ?_ _ | exact Below.refl _ _)))) k1' k2' (unhide HK)).mono ?_; rintro e w_e0a ⟨v_e0a, rfl, hv_e0a, hb_e0a⟩; obtain ⟨hc_e0a, hf_e0a⟩ := bcell hb_e0a; have sz_e0a := hb_e0a.size; (try simp at sz_e0a); have qq0 := hc_e0a (w.heap.size) (0) (by first | (simp; done) | (simp; omega) | omega); have qq1 := hc_e0a (w.heap.size) (1) (by first | (simp; done) | (simp; omega) | omega); have qq2 := hc_e0a (w_x0.heap.size) (0) (by first | (simp; done) | (simp; omega) | omega); have qq3 := hc_e0a (w_x0.heap.size) (1) (by first | (simp; done) | (simp; omega) | omega))
        | (go_at_call 13; refine (eqNet_any _ _ n _ k1' k2' (unhide HK) (fN_q.below (below_then (by repeat (first | with_reducible exact Below.refl _ _ | refine Below.setCell ?_ (by first | omega | (simp <;> omega) | (simp [World.setCell] <;> omega)) _ | refine Below.alloc ?_ (by first | omega | (simp <;> omega) | (simp [World.setCell] <;> omega)) _ | refine Below.drew ?_ | refine below_draws ?_ _ | exact Below.refl _ _)) hb_e0a)) hv_e0a).mono ?_; rintro e w_e0b ⟨rfl, hb_e0b⟩; obtain ⟨hc_e0b, hf_e0b⟩ := bcell hb_e0b; have rr0 := hc_e0b (w.heap.size) (0) (by first | (have := hb_e0a.size; omega) | (have := hb_e0a.size; simp at this ⊢; omega) | (simp; omega)); have rr1 := hc_e0b (w.heap.size) (1) (by first | (have := hb_e0a.size; omega) | (have := hb_e0a.size; simp at this ⊢; omega) | (simp; omega)); have rr2 := hc_e0b (w_x0.heap.size) (0) (by first | (have := hb_e0a.size; omega) | (have := hb_e0a.size; simp at this ⊢; omega) | (simp; omega)); have rr3 := hc_e0b (w_x0.heap.size) (1) (by first | (have := hb_e0a.size; omega) | (have := hb_e0a.size; simp at this ⊢; omega) | (simp; omega))))
    all_goals go_wp2_with fail
    all_goals go_meet
    all_goals exact ⟨rfl, below_then (below_then (by repeat (first | with_reducible exact Below.refl _ _ | refine Below.setCell ?_ (by first | omega | (simp <;> omega) | (simp [World.setCell] <;> omega)) _ | refine Below.alloc ?_ (by first | omega | (simp <;> omega) | (simp [World.setCell] <;> omega)) _ | refine Below.drew ?_ | refine below_draws ?_ _ | exact Below.refl _ _)) hb_e0a) hb_e0b⟩
  case rest =>
    obtain ⟨rfl, hb_e0⟩ := hcut
    clear p0 p1 y0 y1 pn yn
    have hbw_e0 := below_then hbw_q hb_e0
    have hb_2e := below_then hb_2q hb_e0
    have X_e := X_q.below hb_e0
    have Y_e := Y_q.below hb_e0
    have rU_e := rU_q.below hb_e0
    have rG_e := rG_q.below hb_e0
    go_wp2_with fail
    refine (toTrainS_own tq ts tk _ htl (unhide HTB) (hts.below hbw_e0)).mono ?_
    rintro e w_f1 ⟨fa, rfl, hft, hb_f1⟩
    have hbw_f1 := below_then hbw_e0 hb_f1
    have hb_2f1 := below_then hb_2e hb_f1
    go_wp2_with fail
    refine (eqTrainS_any _ _ ts _ _ _ htl (unhide HTB) ((fT1.below hb_x2).below hb_2f1).in hft.at.in).mono ?_
    rintro e w_f2 ⟨rfl, hb_f2⟩
    have hbw_f2 := below_then hbw_f1 hb_f2
    have hb_2f2 := below_then hb_2f1 hb_f2
    go_wp2_with fail
    refine (toPartS_own pq ps pk _ hpl (hps.below hbw_f2)).mono ?_
    rintro e w_f3 ⟨fb, rfl, hfp, hb_f3⟩
    have hbw_f3 := below_then hbw_f2 hb_f3
    have hb_2f3 := below_then hb_2f2 hb_f3
    go_wp2_with fail
    refine (eqPartS_any _ _ ps _ _ _ hpl (fP2.below hb_2f3) hfp.at).mono ?_
    rintro e w_f ⟨rfl, hb_f4⟩
    have hbw_f := below_then hbw_f3 hb_f4
    have hb_2f := below_then hb_2f3 hb_f4
    have hb_ef := below_then (below_then (below_then hb_f1 hb_f2) hb_f3) hb_f4
    have X_f := X_e.below hb_ef
    have Y_f := Y_e.below hb_ef
    have rU_f := rU_e.below hb_ef
    have rG_f := rG_e.below hb_ef
    clear hft hfp
    have mo0 := ((unhide HO0).below hb'_x1 (Nat.le_refl _)).below (below_then hb_x2 hb_2f) (Nat.le_of_lt le_1)
    have mo1 := (unhide HO1).below (below_then hb_x2 hb_2f) (Nat.le_refl _)
    have mo2 := (unhide HO2).below hb_2f (Nat.le_refl _)
    have gS : Hid (∀ k, (Value.slice pa zs.length pcap).ownBlock = some k → k < w_gs.heap.size) := hide fun k hk => ((unhide HRS).lt k hk).2
    have gG : Hid (∀ k, (Value.slice qa zs.length qcap).ownBlock = some k → w_x2.heap.size ≤ k) := hide fun k hk => ((unhide HRG).lt k hk).1
    have le_x0 : w_gs.heap.size ≤ w_x0.heap.size := hb_x0.size
    have le_x2 : w_x1.heap.size ≤ w_x2.heap.size := hb_x2.size
    have lb : w.heap.size < w_gs.heap.size := X_S.1
    have lc : w_x2.heap.size ≤ w_f.heap.size := hb_2f.size
    have y0 := Y_f.2.1 0 _ rfl
    have y1 := Y_f.2.1 1 _ rfl
    go_wp2_with fail
    refine (markNet_any _ n _ _ 1 _ mo0 k1' k2' (unhide HK) (by omega) (by omega)).mono ?_
    rintro e w_m0 ⟨rr0, rfl, hra0, hrb0, on0⟩
    clear y0 y1
    have hbw_m0 := hbw_f.trans (on0.below hbw_f.size (fun k hk => (fun h => by have := h; omega)))
    have X_m0 := X_f.onlyS on0 (fun h => by have := h; omega)
    have mo1_0 := mo1.stays (on0.stays (by omega) (fun k h1 h2 h => by have := h; simp at h1; omega))
    have mo2_0 := mo2.stays (on0.stays (by omega) (fun k h1 h2 h => by have := h; omega))
    have rU_m0 := rU_f.only on0 (fun k hk => by have := unhide gS k hk; exact (fun h => by have := h; omega))
    have rG_m0 := rG_f.only on0 (fun k hk => by have := unhide gG k hk; exact (fun h => by have := h; omega))
    have lm0 := on0.size
    go_wp2_with fail
    refine (markTrsOwn_any _ ts _ _ _ rr0 _ mo1_0 htl (unhide HTB) (by omega) (by omega)).mono ?_
    rintro e w_m1 ⟨rr1, rfl, hra1, hrb1, on1⟩
    have hbw_m1 := hbw_m0.trans (on1.below hbw_m0.size (fun k hk => (fun h => by have := h; simp at this; omega)))
    have X_m1 := X_m0.onlyS on1 (fun h => by have := h; simp at this; omega)
    have mo2_1 := mo2_0.stays (on1.stays (by omega) (fun k h1 h2 h => by have := h; omega))
    have rU_m1 := rU_m0.only on1 (fun k hk => by have := unhide gS k hk; exact (fun h => by have := h; simp at this; omega))
    have rG_m1 := rG_m0.only on1 (fun k hk => by have := unhide gG k hk; exact (fun h => by have := h; omega))
    have lm1 := on1.size
    obtain ⟨mf2, mo2', mb2⟩ := mo2_1.own
    have MB2 := hide mb2
    clear mb2
    go_wp2_with fail
    refine (markPartS_any _ _ _ rr1 mf2 _ hpl (by omega) (by omega) mo2').mono ?_
    rintro e w_m2 ⟨rfl, _, on2⟩
    have hbw_m2 := hbw_m1.trans (on2.below hbw_m1.size (fun k hk => (fun h => by have := unhide MB2 _ h; omega)))
    have X_m2 := X_m1.onlyS on2 (fun h => by have := unhide MB2 _ h; omega)
    have rU_m2 := rU_m1.only on2 (fun k hk => by have := unhide gS k hk; exact (fun h => by have := unhide MB2 _ h; omega))
    have rG_m2 := rG_m1.only on2 (fun k hk => by have := unhide gG k hk; exact (fun h => by have := unhide MB2 _ h; omega))
    have lm2 := on2.size
    have hk0 : ¬ (rr1 + ((ps.length * 3 : Nat) : Int) < 0) := by omega
    go_wp2_with fail
    refine (eqIntS_any _ _ zs _ _ _ (by omega) (ntRow_ints rG_m2) (ntRow_ints rU_m2)).mono ?_
    rintro e w_r ⟨rfl, hb_r⟩
    clear hk0
    have hbw_r := below_then hbw_m2 hb_r
    have X_r := X_m2.below hb_r
    have rU_r := rU_m2.below hb_r
    have rG_r := rG_m2.below hb_r
    have lr := hb_r.size
    obtain ⟨gf, goG⟩ := ntRow_own rG_r
    go_wp2_with fail
    refine (markIntS_any _ _ _ 1 gf _ (by omega) (by omega) (by omega) goG).mono ?_
    rintro e w_mg ⟨rfl, hoG, onG⟩
    have hbw_mg := hbw_r.trans (onG.below hbw_r.size (fun k hk => (fun h => by have := unhide gG _ (ownBlock_slice h); omega)))
    have X_mg := X_r.onlyS onG (fun h => by have := unhide gG _ (ownBlock_slice h); omega)
    have rU_mg := rU_r.only onG (fun k hk => by have := unhide gS k hk; exact (fun h => by have := unhide gG _ (ownBlock_slice h); omega))
    go_wp2_with fail
    refine (heldIntS_any _ _ _ 1 _ (by omega) (by omega) (by omega) hoG).mono ?_
    rintro e w_hd ⟨rfl, hw_hd⟩
    have hw_hd2 := hw_hd.symm
    clear hw_hd
    subst hw_hd2
    have p0 := X_mg.2.1 0 _ rfl
    have p1 := X_mg.2.1 1 _ rfl
    have pn := X_mg.1
    have hm0 : ¬ ((1 : Int) + (zs.length : Int) < 0) := by omega
    go_wp2_with fail
    refine (toNet_any _ n _ (hvv.below hbw_mg) k1' k2' (unhide HK)).mono ?_
    rintro e h1 ⟨hv1, rfl, hhv, hbh1⟩
    go_wp2_with fail
    refine (toTrainS_own tq ts tk _ htl (unhide HTB) ((hts.below hbw_mg).below hbh1)).mono ?_
    rintro e h2 ⟨ha2, rfl, hht, hbh2⟩
    go_wp2_with fail
    refine (toPartS_own pq ps pk _ hpl (((hps.below hbw_mg).below hbh1).below hbh2)).mono ?_
    rintro e h3 ⟨hb3', rfl, hhp, hbh3⟩
    go_wp2_with fail
    refine (implTaken_any _ n _ ts _ _ ps _ _ ((hhv.below hbh2).below hbh3) (hht.at.below hbh3) hhp.at htl (unhide HBM) hpl k1' k2' (fun i h => (unhide HLE i h).1) (unhide HNM)).mono ?_
    rintro e w_h ⟨⟨ra, rcap, zs2, hzs2, rfl, hrowH⟩, hbh⟩
    have hbH : Below w_mg.heap.size w_mg w_h := below_then (below_then (below_then hbh1 hbh2) hbh3) hbh
    have hbw_h := below_then hbw_mg hbH
    have hq2 : zs = zs2 := (unhide HZS).unique hzs2
    subst hq2
    have HRH := hide hrowH
    clear hzs2 hrowH
    go_wp2_with fail
    refine (eqIntS_any _ _ zs _ _ _ (by omega) (ntRow_ints (unhide HRH)) (ntRow_ints (rU_mg.below hbH))).mono ?_
    rintro e w_s ⟨rfl, hb_s⟩
    have hbw_s := below_then hbw_h hb_s
    go_wp2_with fail
    refine (heldIntS_any _ _ _ 1 _ (by omega) (by omega) (by omega) ((hoG.below hbH).below hb_s)).mono ?_
    rintro e w_z ⟨rfl, hw_z⟩
    have hw_z2 := hw_z.symm
    clear hw_z
    subst hw_z2
    go_wp2
    go_ret
    exact ⟨rfl, hbw_s⟩

end Go.Proofs.YtbdggfpfpjijoabGreat

