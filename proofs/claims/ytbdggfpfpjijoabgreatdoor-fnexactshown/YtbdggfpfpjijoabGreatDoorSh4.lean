import Derived.Test.YtbdggfpfpjijoabGreatDoorSh2
import Derived.Test.YtbdggfpfpjijoabGreatDoorSh3
namespace Go.Proofs.YtbdggfpfpjijoabGreatDoor
open Go.RowKit

set_option maxRecDepth 100000 in
set_option maxHeartbeats 8000000 in
theorem implShown_any (v : Value) (n : Nt) (tq : Option Addr) (ts : List Tr) (tk : Nat) (w : World) {L L' : Nat} (hv : NetAt L w v n) (hts : TrsAt L' w tq ts) (htl : ts.length ≤ 1048576) (hbl : ∀ t ∈ ts, t.back.length ≤ 1048576) (hl : n.pieces.length ≤ 1048576) (hl' : n.joints.length ≤ 1048576)
    (hle : ∀ i (h : i < n.joints.length), n.joints[i].name.size ≤ maxLen) (hnm : ∀ i (h : i < n.pieces.length), n.pieces[i].name.size ≤ maxLen) (ht : TabK w) :
    Calls Tryz.prog 32 #[v, .slice tq ts.length tk] w fun e w' => (∃ s, e = .returned (.string s) ∧ ShownIs n ts s) ∧ Below w.heap.size w w' := by
  have hvv := hv
  obtain ⟨a1, a2, k1, k2, rfl, hp, hj⟩ := hv
  go_enter Tryz.func32, Tryz.ntmps32
  go_wp2_with fail
  have hA : Below w.heap.size w (w.alloc (.cells #[.slice a1 n.pieces.length k1, .slice a2 n.joints.length k2] 45)) := (by repeat (first | with_reducible exact Below.refl _ _ | refine Below.setCell ?_ (by first | omega | (simp <;> omega) | (simp [World.setCell] <;> omega)) _ | refine Below.alloc ?_ (by first | omega | (simp <;> omega) | (simp [World.setCell] <;> omega)) _ | refine Below.drew ?_ | refine below_draws ?_ _ | exact Below.refl _ _))
  refine (worldOf_any _ n tq ts tk _ (L := L) (hvv.below hA) (hts.below hA) htl hbl hl hl' hle hnm).mono ?_
  rintro e w1 ⟨hret, hb1⟩
  have hB1 := below_then hA hb1
  have HT1 := hide (ht.below hB1)
  clear hb1 hA hp hj hvv hts ht hl hl' hle hnm hbl htl
  rcases hret with ⟨hok, W, ka, ksh, kst, kca, kcsh, kcst, Mp, N, mvv, ms, rfl, hW, hN, hk⟩ | ⟨hno, rfl⟩
  rotate_left
  · have HNO := hide hno
    have HB1 := hide hB1
    clear hno hB1
    go_wp2_with fail
    go_ret
    exact ⟨⟨_, rfl, Or.inr ⟨unhide HNO, rfl⟩⟩, unhide HB1⟩
  have h20 := hok.2.1
  have hG := netGood hok.1
  have hnp := hG.np
  have hWl := hW.ty.lt
  have q0 := hW.c0
  have q4 := hW.c4
  have HW := hide hW
  have HOK := hide hok
  have HG := hide hG
  have HPC := hide hk.pcs
  have HB1 := hide hB1
  obtain ⟨m, hm⟩ : ∃ m, n.pieces.length = m := ⟨_, rfl⟩
  rw [hm] at q0 hnp
  have HM := hide hm
  have HC0 := hide q0
  have HC4 := hide q4
  have hml : ms.length ≤ 20 := by rw [hW.len]; exact h20
  clear hok hG hk hB1 hm q4 hW
  have HBN := hide (bld_new w1)
  go_wp2_with fail
  obtain ⟨b, hb⟩ : ∃ b, w1.heap.size = b := ⟨_, rfl⟩
  rw [hb] at HBN ⊢
  have hbw : w1.heap.size ≤ b ∧ b ≤ w1.heap.size := by omega
  clear hb q0
  go_loopw [26] (fun z wr => ∃ (i : Nat), z = .int .i64 i ∧ i ≤ m ∧ Hid (BldF b (Lib.strCells (shGo n ts i)) wr) ∧ Below w1.heap.size w1 wr ∧ b < wr.heap.size) (fun z _ => m - (intOf z).toNat)
  case atStart => exact ⟨0, rfl, Nat.zero_le _, HBN, (by repeat (first | with_reducible exact Below.refl _ _ | refine Below.setCell ?_ (by first | omega | (simp <;> omega) | (simp [World.setCell] <;> omega)) _ | refine Below.alloc ?_ (by first | omega | (simp <;> omega) | (simp [World.setCell] <;> omega)) _ | refine Below.drew ?_ | refine below_draws ?_ _ | exact Below.refl _ _)), by simp; omega⟩
  case round =>
    clear HBN
    obtain ⟨i, rfl, hi, HBi, hbr, hsr⟩ := hrel
    by_cases hlt : i < m
    · have hlt' : (i : Int) < (m : Int) := by omega
      have hlt2 : i < n.pieces.length := by rw [unhide HM]; exact hlt
      obtain ⟨pb, poff, hae, hpb, c0, c1, c2, c3⟩ := (unhide HPC) i hlt2
      have p0 := (hbr.cell hpb.2).trans c0
      have p1 := (hbr.cell hpb.2).trans c1
      have p2 := (hbr.cell hpb.2).trans c2
      have p3 := (hbr.cell hpb.2).trans c3
      have hpw : pb < wr.heap.size := by have := hbr.size; omega
      have hns := name_size (unhide HOK).1 hlt2
      have hss := shGo_size (unhide HOK) i (by omega)
      have HLN : Hid (shGo n ts (i + 1) = (shGo n ts i ++ n.pieces[i].name) ++ (trGo n ts i (List.range ts.length) ++ ⟨#[10]⟩)) := by
        unfold Hid
        show shGo n ts i ++ lnGo n ts i = _
        unfold lnGo
        simp [List.getD_eq_getElem?_getD, hlt2, ba_assoc]
      obtain ⟨⟨nm, le, spd, br⟩, hpc⟩ : ∃ x, n.pieces[i] = x := ⟨_, rfl⟩
      rw [hpc] at p0 p1 p2 p3 hns HLN
      dsimp only at p0 p1 p2 p3 hns HLN
      obtain ⟨acc, hacc⟩ : ∃ acc, shGo n ts i = acc := ⟨_, rfl⟩
      rw [hacc] at HBi hss HLN
      subst hae
      clear c0 c1 c2 c3 hpc hacc
      have hwi : IntKind.i64.wrap ((i : Int) + 1) = ((i + 1 : Nat) : Int) := (wrap_small (by omega) (by omega)).trans (by omega)
      go_wp2_with fail
      have hAp : Below wr.heap.size wr (wr.alloc (.cells #[.string nm, .int .i64 le, .int .i64 spd, .int .i64 br] 142)) := (by repeat (first | with_reducible exact Below.refl _ _ | refine Below.setCell ?_ (by first | omega | (simp <;> omega) | (simp [World.setCell] <;> omega)) _ | refine Below.alloc ?_ (by first | omega | (simp <;> omega) | (simp [World.setCell] <;> omega)) _ | refine Below.drew ?_ | refine below_draws ?_ _ | exact Below.refl _ _))
      refine (bStr_any b _ nm _ ((unhide HBi).below hAp) (by rw [Lib.strCells_length]; omega) (by have := hAp.size; omega)).mono ?_
      rintro e w3 ⟨rfl, g3, b3, _⟩
      have G3 := hide (bld_app g3)
      have hB3 : Below w1.heap.size w1 w3 := (below_then hbr hAp).trans (b3.mono (by omega))
      have hs3 : b < w3.heap.size := by have := b3.size; have := hAp.size; omega
      clear g3 b3 hAp p0 p1 p2 p3 hpw HBi
      obtain ⟨f, hmap, hrows, _, _⟩ := (unhide HW).lying
      obtain ⟨fa, fcap, hfv, hfc, hptrs⟩ := prRow_at (hrows (i : Int))
      obtain ⟨is, his⟩ : ∃ is, ((List.range ms.length).filter fun k => (bodyParts n (ts.getD k noTr')).any fun x => decide (x.piece = (i : Int))) = is := ⟨_, rfl⟩
      have hqs : lsOf ms (fun k => bodyParts n (ts.getD k noTr')) (i : Int) = is.map fun k => ms.getD k 0 := by rw [← his]; rfl
      have hisl : ∀ k ∈ is, k < ms.length := fun k hk => by rw [← his] at hk; exact List.mem_range.1 (List.mem_filter.1 hk).1
      have hisn : is.length ≤ 20 := by rw [← his]; have := List.length_filter_le (fun k => (bodyParts n (ts.getD k noTr')).any fun x => decide (x.piece = (i : Int))) (List.range ms.length); rw [List.length_range] at this; omega
      have HTG : Hid (trGo n ts i is = trGo n ts i (List.range ts.length)) := by rw [← his, (unhide HW).len]; exact trGo_filter n ts i _
      rw [hqs] at hfv hptrs
      rw [List.length_map] at hfv
      have hwf := wf_small (v := (i : Int)) (by omega) (by omega)
      have hlk : (Instr.lookup 125 (.map (some Mp)) (.int .i64 i) false).run Tryz.prog w3 = .ok (.slice fa is.length fcap) w3 := by
        rw [← hfv]
        exact (hmap.below hB3).look hwf
      have d4 := (hB3.cell (p := ⟨W, 4, none⟩) hWl).trans (unhide HC4)
      have hW3 : W < w3.heap.size := by have := hB3.size; omega
      have HPR := hide hptrs
      have HIS := hide hisl
      clear hmap hrows hfv hqs his hptrs hisl hfc
      go_wp2_with fail
      clear hlk d4
      go_loopw [41] (fun z wx => ∃ (j : Nat), z = .int .i64 j ∧ j ≤ is.length ∧ Hid (BldF b (Lib.strCells ((acc ++ nm) ++ trGo n ts i (is.take j))) wx) ∧ Below w1.heap.size w1 wx ∧ b < wx.heap.size) (fun z _ => is.length - (intOf z).toNat)
      case atStart => exact ⟨0, rfl, Nat.zero_le _, by simp only [List.take_zero, trGo, nil_ba]; exact G3, hB3, hs3⟩
      case round =>
        clear G3 hB3 hs3 hW3
        obtain ⟨j, rfl, hj, HBj, hbx, hsx⟩ := hrel
        have hts0 := trGo_size (unhide HOK) (i : Int) (is.take j) fun k hk => by have := unhide HIS k (List.mem_of_mem_take hk); rw [(unhide HW).len] at this; exact this
        have htl0 : (is.take j).length ≤ 20 := by rw [List.length_take]; omega
        by_cases hjl : j < is.length
        · have hjl' : (j : Int) < (is.length : Int) := by omega
          obtain ⟨fb, foff, hfa, hfb, hfc⟩ := (unhide HPR) j (by rw [List.length_map]; exact hjl)
          rw [List.getElem_map] at hfc
          have hxm := unhide HIS _ (List.getElem_mem hjl)
          have HTS : Hid (trGo n ts i (is.take (j + 1)) = trGo n ts i (is.take j) ++ onGo i is[j] (bodyParts n (ts.getD is[j] noTr'))) := by unfold Hid; rw [← List.take_append_getElem hjl, trGo_snoc]
          obtain ⟨x, hx⟩ : ∃ x, is[j] = x := ⟨_, rfl⟩
          rw [hx] at hfc hxm HTS
          have hxt : x < ts.length := by rw [← (unhide HW).len]; exact hxm
          have hgd : ms.getD x 0 = ms[x] := by simp [List.getD_eq_getElem?_getD, hxm]
          rw [hgd] at hfc
          have mv := (unhide HW).mvs x hxm
          have hgt : ts.getD x noTr' = ts[x] := by simp [List.getD_eq_getElem?_getD, hxt]
          have hTR : TrainRight n (ts.getD x noTr') := by rw [hgt]; exact ⟨(unhide HOK).1, (unhide HOK).2.2 _ (List.getElem_mem hxt)⟩
          have hosz := on_size (unhide HOK) (i : Int) hxt (bodyParts n (ts.getD x noTr')).length
          rw [List.take_length] at hosz
          have hpl := bodyParts_len (unhide HG) hTR.2
          have hfit : ∀ y ∈ bodyParts n (ts.getD x noTr'), (0 ≤ y.fr ∧ y.fr ≤ 10000000) ∧ (0 ≤ y.to ∧ y.to ≤ 10000000) := fun y hy => by
            have h1 := (body_fits hTR).1.1 y hy
            have h2 := ((unhide HG).len h1.1.1 h1.1.2).2
            have h3 := h1.2
            omega
          obtain ⟨cv, hcv, hcr⟩ := mv.cov
          obtain ⟨ca, ccap, rfl, _, hcp⟩ := ptRow_at hcr
          have hMl := mv.ty.lt
          have num := (hbx.cell (p := ⟨ms[x], 412, none⟩) hMl).trans mv.num
          have cov := (hbx.cell (p := ⟨ms[x], 413, none⟩) hMl).trans hcv
          have fc := (hbx.cell hfb).trans hfc
          have hfw : fb < wr.heap.size := by have := hbx.size; omega
          have hMw : ms[x] < wr.heap.size := by have := hbx.size; omega
          obtain ⟨M, hM⟩ : ∃ M, ms[x] = M := ⟨_, rfl⟩
          rw [hM] at num cov fc hMw
          obtain ⟨ps, hps⟩ : ∃ ps, bodyParts n (ts.getD x noTr') = ps := ⟨_, rfl⟩
          rw [hps] at cov hcp hpl hfit hosz HTS
          have HCP := hide hcp
          have HFT := hide hfit
          have HCV := hide (And.intro num cov)
          subst hfa
          clear hcv hcr hcp hfit mv hM hps hfc hx hgd hgt hTR num cov
          have hwj : IntKind.i64.wrap ((j : Int) + 1) = ((j + 1 : Nat) : Int) := (wrap_small (by omega) (by omega)).trans (by omega)
          go_wp2_with fail
          refine (shownOn_any M x i ps ca ccap _ hMw (unhide HCV).1 (unhide HCV).2 ((unhide HCP).below hbx) (by omega) (by omega) (unhide HFT) ((unhide HT1).below hbx)).mono ?_
          rintro e w5 ⟨rfl, b5⟩
          have G5 := hide ((unhide HBj).below b5)
          have hB5 := below_then hbx b5
          have hs5 := b5.size
          clear b5 fc
          go_wp2_with fail
          refine (bStr_any b _ _ _ (unhide G5) (by rw [Lib.strCells_length]; simp only [ByteArray.size_append]; omega) (by omega)).mono ?_
          rintro e w6 ⟨rfl, g6, b6, _⟩
          have G6 := hide (bld_app g6)
          have hB6 := hB5.trans (b6.mono (by omega))
          have hs6 := b6.size
          clear g6 b6
          go_wp2_with fail
          refine ⟨⟨j + 1, rfl, hjl, ?_, hB6, by omega⟩, by simp [intOf]; omega⟩
          rw [unhide HTS, ← ba_assoc]
          exact G6
        · have hjl' : ¬ (j : Int) < (is.length : Int) := by omega
          have hje : j = is.length := by omega
          rw [hje, List.take_length] at HBj hts0
          go_wp2_with fail
          refine (bByte_any b _ 10 _ (unhide HBj) (by rw [Lib.strCells_length]; simp only [ByteArray.size_append]; omega) (by omega)).mono ?_
          rintro e w5 ⟨rfl, g5, b5, _⟩
          have G5 := hide (bld_one (by omega) (by omega) g5)
          have hB5 := hbx.trans (b5.mono (by omega))
          have hs5 := b5.size
          clear g5 b5
          go_wp2_with fail
          refine ⟨⟨i + 1, rfl, hlt, ?_, hB5, by omega⟩, by simp [intOf]; omega⟩
          rw [unhide HLN, ← unhide HTG, ← ba_assoc]
          exact G5
    · have hlt' : ¬ (i : Int) < (m : Int) := by omega
      have him : i = m := by omega
      go_wp2_with fail
      refine (bString_any b _ _ (unhide HBi) (by omega)).mono ?_
      rintro e w9 ⟨rfl, hb9⟩
      go_wp2_with fail
      go_ret
      refine ⟨⟨_, rfl, Or.inl ⟨unhide HOK, ?_⟩⟩, (unhide HB1).trans ((hbr.trans (hb9.mono (by omega))).mono (unhide HB1).size)⟩
      rw [← unhide HM]
      rfl
end Go.Proofs.YtbdggfpfpjijoabGreatDoor

