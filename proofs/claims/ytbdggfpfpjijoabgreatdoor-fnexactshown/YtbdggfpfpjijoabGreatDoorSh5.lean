import Derived.Test.YtbdggfpfpjijoabGreatDoorSh3
set_option linter.unusedSimpArgs false
namespace Go.Proofs.YtbdggfpfpjijoabGreatDoor
open Go.RowKit

set_option maxRecDepth 100000 in
set_option maxHeartbeats 8000000 in
theorem specShown_any (v : Value) (n : Nt) (tq : Option Addr) (ts : List Tr) (tk : Nat) (w : World) {L L' : Nat} (hv : NetAt L w v n) (hts : TrsAt L' w tq ts) (htl : ts.length ≤ 1048576) (hbl : ∀ t ∈ ts, t.back.length ≤ 1048576) (hl : n.pieces.length ≤ 1048576) (hl' : n.joints.length ≤ 1048576)
    (hle : ∀ i (h : i < n.joints.length), n.joints[i].ends.length ≤ 1048576 ∧ n.joints[i].name.size ≤ maxLen) (hnm : ∀ i (h : i < n.pieces.length), n.pieces[i].name.size ≤ maxLen) :
    Calls Tryz.prog 31 #[v, .slice tq ts.length tk] w fun e w' => (∃ s, e = .returned (.string s) ∧ ShownIs n ts s) ∧ Below w.heap.size w w' := by
  have hvv := hv
  obtain ⟨a1, a2, k1, k2, rfl, hp, hj⟩ := hv
  have HVV := hide hvv
  have HTS := hide hts
  have HP := hide hp
  clear hj hvv hp hts
  go_enter Tryz.func31, Tryz.ntmps31
  go_wp2_with fail
  have hA : Below w.heap.size w (w.alloc (.cells #[.slice a1 n.pieces.length k1, .slice a2 n.joints.length k2] 45)) := (by repeat (first | with_reducible exact Below.refl _ _ | refine Below.setCell ?_ (by first | omega | (simp <;> omega) | (simp [World.setCell] <;> omega)) _ | refine Below.alloc ?_ (by first | omega | (simp <;> omega) | (simp [World.setCell] <;> omega)) _ | refine Below.drew ?_ | refine below_draws ?_ _ | exact Below.refl _ _))
  refine (l4good_any _ n tq ts tk _ ((unhide HVV).below hA) ((unhide HTS).below hA) htl hbl hl hl' hle hnm).mono ?_
  rintro e w1 ⟨hr, hb1⟩
  have hB1 := below_then hA hb1
  have hX1 := (boxed_alloc w #[.slice a1 n.pieces.length k1, .slice a2 n.joints.length k2] 45).below hb1
  clear hb1 hA
  rcases hr with ⟨rfl, hw⟩ | ⟨rfl, hw⟩
  rotate_left
  · go_wp2_with fail
    go_ret
    exact ⟨⟨_, rfl, Or.inr ⟨hw, rfl⟩⟩, hB1⟩
  have h20 := hw.2.1
  have hG := netGood hw.1
  have hnp := hG.np
  have HW := hide hw
  have HG := hide hG
  have HX1 := hide hX1
  have HB1 := hide hB1
  have n0 := hX1.2.1 0 _ rfl
  have nl := hX1.1
  obtain ⟨m, hm⟩ : ∃ m, n.pieces.length = m := ⟨_, rfl⟩
  rw [hm] at n0 hnp
  have HM := hide hm
  clear hw hG hX1 hB1 hm hl hl' hle hnm hbl htl
  obtain ⟨q, hq⟩ : ∃ q, ts.length = q := ⟨_, rfl⟩
  rw [hq] at h20 ⊢
  have HQ := hide hq
  clear hq
  go_wp2_with fail
  clear n0 nl
  go_loopw [5, 19] (fun y z wr => ∃ (i : Nat) (acc : ByteArray), z = .int .i64 i ∧ y = .string acc ∧ i ≤ m ∧ Hid (acc = shGo n ts i) ∧ acc.size ≤ 90000 * i ∧ Below w1.heap.size w1 wr) (fun _ z _ => m - (intOf z).toNat)
  case atStart => exact ⟨0, ⟨#[]⟩, rfl, rfl, Nat.zero_le _, rfl, by simp [ByteArray.size], Below.refl _ _⟩
  case round =>
    obtain ⟨i, acc, rfl, rfl, hi, HACC, hasz, hbr⟩ := hrel
    by_cases hlt : i < m
    · have hlt' : (i : Int) < (m : Int) := by omega
      have hlt2 : i < n.pieces.length := by rw [unhide HM]; exact hlt
      obtain ⟨pb, poff, hae, hpb, q0, q1, q2, q3⟩ := (unhide HP) i hlt2
      have hBr := below_then (unhide HB1) hbr
      have p0 := (hBr.cell hpb.2).trans q0
      have p1 := (hBr.cell hpb.2).trans q1
      have p2 := (hBr.cell hpb.2).trans q2
      have p3 := (hBr.cell hpb.2).trans q3
      have hpw : pb < wr.heap.size := by have := hBr.size; omega
      have hns := name_size (unhide HW).1 hlt2
      have HLN : Hid (lnGo n ts i = (n.pieces[i].name ++ trGo n ts i (List.range ts.length)) ++ ⟨#[10]⟩) := by unfold Hid lnGo; simp [List.getD_eq_getElem?_getD, hlt2]
      obtain ⟨⟨nm, le, spd, br⟩, hpc⟩ : ∃ x, n.pieces[i] = x := ⟨_, rfl⟩
      rw [hpc] at p0 p1 p2 p3 hns HLN
      dsimp only at p0 p1 p2 p3 hns HLN
      subst hae
      have HBR := hide hBr
      clear q0 q1 q2 q3 hpc hBr
      have hmx : ¬ 9223372036854775807 < acc.size + nm.size := by omega
      have hwi : IntKind.i64.wrap ((i : Int) + 1) = ((i + 1 : Nat) : Int) := (wrap_small (by omega) (by omega)).trans (by omega)
      go_wp2_with fail
      obtain ⟨w2, hw2⟩ : ∃ w2, wr.alloc (.cells #[.string nm, .int .i64 le, .int .i64 spd, .int .i64 br] 142) = w2 := ⟨_, rfl⟩
      have hBw2 : Below w.heap.size w w2 := below_then (unhide HBR) (by rw [← hw2]; exact (by repeat (first | with_reducible exact Below.refl _ _ | refine Below.setCell ?_ (by first | omega | (simp <;> omega) | (simp [World.setCell] <;> omega)) _ | refine Below.alloc ?_ (by first | omega | (simp <;> omega) | (simp [World.setCell] <;> omega)) _ | refine Below.drew ?_ | refine below_draws ?_ _ | exact Below.refl _ _)))
      have hB12 : Below w1.heap.size w1 w2 := below_then hbr (by rw [← hw2]; exact (by repeat (first | with_reducible exact Below.refl _ _ | refine Below.setCell ?_ (by first | omega | (simp <;> omega) | (simp [World.setCell] <;> omega)) _ | refine Below.alloc ?_ (by first | omega | (simp <;> omega) | (simp [World.setCell] <;> omega)) _ | refine Below.drew ?_ | refine below_draws ?_ _ | exact Below.refl _ _)))
      rw [hw2]
      have HBW2 := hide hBw2
      have HB12 := hide hB12
      clear hw2 hBw2 hB12 p0 p1 p2 p3 hpw hbr HBR
      go_loopw [5, 30] (fun y z wx => ∃ (k : Nat) (b2 : ByteArray), z = .int .i64 k ∧ y = .string b2 ∧ k ≤ q ∧ Hid (b2 = (acc ++ nm) ++ trGo n ts i (List.range k)) ∧ b2.size ≤ 90000 * i + 20 + 4000 * k ∧ Below w2.heap.size w2 wx) (fun _ z _ => q - (intOf z).toNat)
      case atStart => exact ⟨0, _, rfl, rfl, Nat.zero_le _, (nil_ba _).symm, by rw [ByteArray.size_append]; omega, Below.refl _ _⟩
      case round =>
        obtain ⟨k, b2, rfl, rfl, hk, HB2, h2sz, hbx⟩ := hrel
        by_cases hkq : k < q
        · have hkq' : (k : Int) < (q : Int) := by omega
          have hk2 : k < ts.length := by rw [unhide HQ]; exact hkq
          obtain ⟨lb, loff, ta, tc, hae, hlb, q0, q1, q2, q3, q4, hst, _⟩ := (unhide HTS) k hk2
          have hBx := below_then (unhide HBW2) hbx
          have hgd : ts.getD k noTr' = ts[k] := by simp [List.getD_eq_getElem?_getD, hk2]
          have hft := (unhide HW).2.2 _ (List.getElem_mem hk2)
          have hosz := fun j => on_size (unhide HW) (i : Int) hk2 j
          rw [hgd] at hosz
          have HSN : Hid (trGo n ts i (List.range (k + 1)) = trGo n ts i (List.range k) ++ onGo i k (bodyParts n ts[k])) := by unfold Hid; rw [List.range_succ, trGo_snoc, hgd]
          obtain ⟨t, hte⟩ : ∃ t, ts[k] = t := ⟨_, rfl⟩
          rw [hte] at q0 q1 q2 q3 q4 hst hft hosz HSN
          have p0 := (hBx.cell hlb.2).trans q0
          have p1 := (hBx.cell hlb.2).trans q1
          have p2 := (hBx.cell hlb.2).trans q2
          have p3 := (hBx.cell hlb.2).trans q3
          have p4 := (hBx.cell hlb.2).trans q4
          have hlw : lb < wr.heap.size := by have := hBx.size; omega
          have hXx := ((unhide HX1).below (unhide HB12)).below hbx
          have n0 := hXx.2.1 0 _ rfl
          have n1 := hXx.2.1 1 _ rfl
          have nl := hXx.1
          subst hae
          have HST := hide hst
          have HFT := hide hft
          have HOS := hide hosz
          have HBX := hide hBx
          clear q0 q1 q2 q3 q4 hgd hte hst hft hosz hBx hXx
          have hwk : IntKind.i64.wrap ((k : Int) + 1) = ((k + 1 : Nat) : Int) := (wrap_small (by omega) (by omega)).trans (by omega)
          go_wp2_with fail
          have hAt : Below wr.heap.size wr (wr.alloc (.cells #[.int .i64 t.front.piece, .int .i64 t.front.at_, .int .i64 t.front.way, .int .i64 t.long, .slice ta t.back.length tc] 37)) := (by repeat (first | with_reducible exact Below.refl _ _ | refine Below.setCell ?_ (by first | omega | (simp <;> omega) | (simp [World.setCell] <;> omega)) _ | refine Below.alloc ?_ (by first | omega | (simp <;> omega) | (simp [World.setCell] <;> omega)) _ | refine Below.drew ?_ | refine below_draws ?_ _ | exact Below.refl _ _))
          have htr : TrAt 0 (wr.alloc (.cells #[.int .i64 t.front.piece, .int .i64 t.front.at_, .int .i64 t.front.way, .int .i64 t.long, .slice ta t.back.length tc] 37)) (.agg #[.int .i64 t.front.piece, .int .i64 t.front.at_, .int .i64 t.front.way, .int .i64 t.long, .slice ta t.back.length tc]) t := ⟨ta, tc, rfl, (((unhide HST).below (unhide HBX)).below hAt).mono (Nat.zero_le _)⟩
          refine (l2body_any _ _ n t _ (((unhide HVV).below (unhide HBX)).below hAt) htr (unhide HG) (unhide HFT)).mono ?_
          rintro e w3 ⟨u, rfl, hrow3, hb3⟩
          obtain ⟨pq, pk, rfl, _, hpt⟩ := ptRow_at hrow3
          have hpl : (bodyParts n t).length ≤ 201 := bodyParts_len (unhide HG) (unhide HFT)
          have hfit : ∀ x ∈ bodyParts n t, (0 ≤ x.fr ∧ x.fr ≤ 10000000) ∧ (0 ≤ x.to ∧ x.to ≤ 10000000) := fun x hx => by
            have h1 := (body_fits (t := t) ⟨(unhide HW).1, unhide HFT⟩).1.1 x hx
            have h2 := ((unhide HG).len h1.1.1 h1.1.2).2
            have h3 := h1.2
            omega
          obtain ⟨ps, hpse⟩ : ∃ ps, bodyParts n t = ps := ⟨_, rfl⟩
          rw [hpse] at hpt hpl hfit HOS HSN ⊢
          have HPT := hide hpt
          have HFIT := hide hfit
          have HB23 := hide (below_then hbx (below_then hAt hb3))
          clear hrow3 hb3 hpt hfit hAt htr hpse p0 p1 p2 p3 p4 n0 n1 nl hlw hbx HBX
          go_wp2_with fail
          go_loopw [5, 39] (fun y z wx => ∃ (j : Nat) (b3 : ByteArray), z = .int .i64 j ∧ y = .string b3 ∧ j ≤ ps.length ∧ Hid (b3 = b2 ++ onGo i k (ps.take j)) ∧ Below w3.heap.size w3 wx) (fun _ z _ => ps.length - (intOf z).toNat)
          case atStart => exact ⟨0, b2, rfl, rfl, Nat.zero_le _, (nil_ba _).symm, Below.refl _ _⟩
          case round =>
            obtain ⟨j, b3, rfl, rfl, hj, HB3, hby⟩ := hrel
            have hb3s : b3.size ≤ b2.size + 4000 := by rw [unhide HB3, ByteArray.size_append]; have := unhide HOS j; omega
            by_cases hjl : j < ps.length
            · have hjl' : (j : Int) < (ps.length : Int) := by omega
              obtain ⟨xb, xoff, hae, hxb, q0, q1, q2⟩ := (unhide HPT) j hjl
              have hfx := unhide HFIT _ (List.getElem_mem hjl)
              have htk : onGo i k (ps.take (j + 1)) = onGo i k (ps.take j) ++ (if ps[j].piece = (i : Int) then shPart k ps[j] else ⟨#[]⟩) := by rw [← List.take_append_getElem hjl, onGo_snoc]
              obtain ⟨⟨xp, xf, xt⟩, hx⟩ : ∃ x, ps[j] = x := ⟨_, rfl⟩
              rw [hx] at q0 q1 q2 hfx htk
              dsimp only at q0 q1 q2 hfx htk
              have p0 := (hby.cell hxb.2).trans q0
              have p1 := (hby.cell hxb.2).trans q1
              have p2 := (hby.cell hxb.2).trans q2
              have hxw : xb < wr.heap.size := Nat.lt_of_lt_of_le hxb.2 hby.size
              have HTK := hide htk
              subst hae
              clear q0 q1 q2 hx htk
              have hwj : IntKind.i64.wrap ((j : Int) + 1) = ((j + 1 : Nat) : Int) := (wrap_small (by omega) (by omega)).trans (by omega)
              by_cases hxp : xp = (i : Int)
              · subst hxp
                obtain ⟨fn, rfl⟩ := Int.eq_ofNat_of_zero_le hfx.1.1
                obtain ⟨tn, rfl⟩ := Int.eq_ofNat_of_zero_le hfx.2.1
                have HN : Hid (b3 ++ ((((⟨#[32]⟩ ++ strOfNums [65 + (k : Int)]) ++ decS fn) ++ ⟨#[45]⟩) ++ decS tn) = b2 ++ onGo i k (ps.take (j + 1))) := by
                  rw [unhide HTK, if_pos rfl, unhide HB3]
                  unfold Hid shPart
                  simp only [Int.toNat_natCast, ba_assoc]
                have hd1 := decS_small (n := fn) (by omega)
                have hd2 := decS_small (n := tn) (by omega)
                have z1 : (⟨#[32]⟩ : ByteArray).size = 1 := rfl
                have z2 : (⟨#[45]⟩ : ByteArray).size = 1 := rfl
                have m1 : ¬ 9223372036854775807 < 1 + (strOfNums [65 + (k : Int)]).size := by rw [strOne]; omega
                have m2 : ¬ 9223372036854775807 < 1 + (strOfNums [65 + (k : Int)]).size + (decS fn).size := by rw [strOne]; omega
                have m3 : ¬ 9223372036854775807 < 1 + (strOfNums [65 + (k : Int)]).size + (decS fn).size + 1 := by rw [strOne]; omega
                have m4 : ¬ 9223372036854775807 < 1 + (strOfNums [65 + (k : Int)]).size + (decS fn).size + 1 + (decS tn).size := by rw [strOne]; omega
                have m5 : ¬ 9223372036854775807 < b3.size + (1 + (strOfNums [65 + (k : Int)]).size + (decS fn).size + 1 + (decS tn).size) := by rw [strOne]; omega
                have w65 : IntKind.i64.wrap (65 + (k : Int)) = 65 + (k : Int) := wrap_small (by omega) (by omega)
                have u65 : IntKind.u8.wrap (65 + (k : Int)) = 65 + (k : Int) := by rw [IntKind.wrap_u8]; omega
                clear z1 z2 HTK
                go_upto_region 15 with fail
                obtain ⟨X, hX⟩ : ∃ X, wr.heap.size = X := ⟨_, rfl⟩
                obtain ⟨wz, hwz⟩ : ∃ wz, wr.alloc (.cells #[.int .i64 i, .int .i64 fn, .int .i64 tn] 138) = wz := ⟨_, rfl⟩
                have hBz : Below wr.heap.size wr wz := by rw [← hwz]; exact (by repeat (first | with_reducible exact Below.refl _ _ | refine Below.setCell ?_ (by first | omega | (simp <;> omega) | (simp [World.setCell] <;> omega)) _ | refine Below.alloc ?_ (by first | omega | (simp <;> omega) | (simp [World.setCell] <;> omega)) _ | refine Below.drew ?_ | refine below_draws ?_ _ | exact Below.refl _ _))
                have hBX : Boxed wz X [.int .i64 i, .int .i64 fn, .int .i64 tn] := by rw [← hwz, ← hX]; exact boxed_alloc _ _ _
                rw [hwz, hX]
                have HBX := hide hBX
                have HBZ := hide (below_then hby hBz)
                have x1 := hBX.2.1 1 _ rfl
                have x2 := hBX.2.1 2 _ rfl
                have xl := hBX.1
                clear hwz hX hBz hBX p0 p1 p2 hxw hby
                refine wp_region_held_drew (S := fun w' => w'.cell? ⟨X, 1, none⟩ = some (.int .i64 fn) ∧ w'.cell? ⟨X, 2, none⟩ = some (.int .i64 tn)) (by kernel_rfl) ?_ (fun hHeld => ?_)
                · exact ⟨by simpa using x1, by simpa using x2⟩
                refine wpAnyH_take (i := 0) (v := ?va1) rfl (by kernel_rfl) (by kernel_rfl) (by kernel_rfl) (fun _ _ _ h => h) (Or.inl ⟨by rfl, ?ya1⟩) (by assumption) ?ra1
                case ya1 => (intro w0 hSw; (try dsimp only at hSw); go_simp; (try with_reducible rfl))
                (try simp only [Act.put, List.setIfInBounds_toArray, List.set_cons_zero, List.set_cons_succ])
                refine wpAnyH_take (i := 1) (v := ?va2) rfl (by kernel_rfl) (by kernel_rfl) (by kernel_rfl) (fun _ _ _ h => h) (Or.inl ⟨by rfl, ?ya2⟩) (by assumption) ?ra2
                case ya2 => (intro w0 hSw; (try dsimp only at hSw); go_simp; (try with_reducible rfl))
                (try simp only [Act.put, List.setIfInBounds_toArray, List.set_cons_zero, List.set_cons_succ])
                refine wpAnyH_take (i := 2) (v := ?va3) rfl (by kernel_rfl) (by kernel_rfl) (by kernel_rfl) (fun _ _ _ h => h) (Or.inl ⟨by rfl, ?ya3⟩) (by assumption) ?ra3
                case ya3 => (intro w0 hSw; (try dsimp only at hSw); go_simp; (try with_reducible rfl))
                (try simp only [Act.put, List.setIfInBounds_toArray, List.set_cons_zero, List.set_cons_succ])
                refine wpAnyH_take (i := 3) (v := ?va4) rfl (by kernel_rfl) (by kernel_rfl) (by kernel_rfl) (fun _ _ _ h => h) (Or.inl ⟨by rfl, ?ya4⟩) (by assumption) ?ra4
                case ya4 => (intro w0 hSw; (try dsimp only at hSw); go_simp; (try with_reducible rfl))
                (try simp only [Act.put, List.setIfInBounds_toArray, List.set_cons_zero, List.set_cons_succ])
                refine wpAnyH_take (i := 7) (v := ?va5) rfl (by kernel_rfl) (by kernel_rfl) (by kernel_rfl) (fun _ _ _ h => h) (Or.inl ⟨by rfl, ?ya5⟩) (by assumption) ?ra5
                case ya5 => (intro w0 hSw; (try dsimp only at hSw); go_simp; (try with_reducible rfl))
                (try simp only [Act.put, List.setIfInBounds_toArray, List.set_cons_zero, List.set_cons_succ])
                refine wpAnyH_take (i := 8) (v := ?va6) rfl (by kernel_rfl) (by kernel_rfl) (by kernel_rfl) (fun _ _ _ h => h) (Or.inl ⟨by rfl, ?ya6⟩) (by assumption) ?ra6
                case ya6 => (intro w0 hSw; (try dsimp only at hSw); go_simp; (try with_reducible rfl))
                (try simp only [Act.put, List.setIfInBounds_toArray, List.set_cons_zero, List.set_cons_succ])
                refine wpAnyH_take (i := 12) (v := ?va7) rfl (by kernel_rfl) (by kernel_rfl) (by kernel_rfl) (fun _ _ _ h => h) (Or.inl ⟨by rfl, ?ya7⟩) (by assumption) ?ra7
                case ya7 => (intro w0 hSw; (try dsimp only at hSw); go_simp; (try with_reducible rfl))
                (try simp only [Act.put, List.setIfInBounds_toArray, List.set_cons_zero, List.set_cons_succ])
                refine wpAnyH_take (i := 13) (v := ?va8) rfl (by kernel_rfl) (by kernel_rfl) (by kernel_rfl) (fun _ _ _ h => h) (Or.inl ⟨by rfl, ?ya8⟩) (by assumption) ?ra8
                case ya8 => (intro w0 hSw; (try dsimp only at hSw); go_simp; (try with_reducible rfl))
                (try simp only [Act.put, List.setIfInBounds_toArray, List.set_cons_zero, List.set_cons_succ])
                refine wpAnyH_ready (rs := [4, 9]) (by kernel_rfl) (by simp) ?_
                refine (AllReadyH.cons rfl (fun K hK => ?_) (AllReadyH.cons rfl (fun K hK => ?_) AllReadyH.nil))
                · go_simp
                  have hGb : Boxed (wz.alloc (.cells #[.int .u8 (65 + (k : Int))] 5)).drew wz.heap.size [.int .u8 (65 + (k : Int))] := (boxed_alloc wz #[.int .u8 (65 + (k : Int))] 5).below (by repeat (first | with_reducible exact Below.refl _ _ | refine Below.setCell ?_ (by first | omega | (simp <;> omega) | (simp [World.setCell] <;> omega)) _ | refine Below.alloc ?_ (by first | omega | (simp <;> omega) | (simp [World.setCell] <;> omega)) _ | refine Below.drew ?_ | refine below_draws ?_ _ | exact Below.refl _ _))
                  have hGc := hGb.2.1 0 _ rfl
                  have hGl := hGb.1
                  clear hGb
                  have hBC : Below wz.heap.size wz (wz.alloc (.cells #[.int .u8 (65 + (k : Int))] 5)).drew := (by repeat (first | with_reducible exact Below.refl _ _ | refine Below.setCell ?_ (by first | omega | (simp <;> omega) | (simp [World.setCell] <;> omega)) _ | refine Below.alloc ?_ (by first | omega | (simp <;> omega) | (simp [World.setCell] <;> omega)) _ | refine Below.drew ?_ | refine below_draws ?_ _ | exact Below.refl _ _))
                  have hBXn := (unhide HBX).below hBC
                  have hHeld := And.intro (hBXn.2.1 1 _ rfl) (hBXn.2.1 2 _ rfl)
                  have xln := hBXn.1
                  clear hBXn
                  refine hK.out _ _ hHeld (fun _ => ?_)
                  clear hK K
                  (try simp only [Act.put, List.setIfInBounds_toArray, List.set_cons_zero, List.set_cons_succ])
                  refine wpAnyH_ready (rs := [5, 9]) (by kernel_rfl) (by simp) ?_
                  refine (AllReadyH.cons rfl (fun K hK => ?_) (AllReadyH.cons rfl (fun K hK => ?_) AllReadyH.nil))
                  · have hcv := conv_at _ _ _ hGc
                    go_simp
                    clear hcv
                    refine hK.out _ _ hHeld (fun _ => ?_)
                    clear hK K
                    (try simp only [Act.put, List.setIfInBounds_toArray, List.set_cons_zero, List.set_cons_succ])
                    refine wpAnyH_take (i := 6) (v := ?va9) rfl (by kernel_rfl) (by kernel_rfl) (by kernel_rfl) (fun _ _ _ h => h) (Or.inl ⟨by rfl, ?ya9⟩) (by assumption) ?ra9
                    case ya9 => (intro w0 hSw; (try dsimp only at hSw); go_simp; (try with_reducible rfl))
                    (try simp only [Act.put, List.setIfInBounds_toArray, List.set_cons_zero, List.set_cons_succ])
                    refine wpAnyH_ready (rs := [9]) (by kernel_rfl) (by simp) ?_
                    refine (AllReadyH.cons rfl (fun K hK => ?_) AllReadyH.nil)
                    go_simp
                    refine (dec_any fn _ (by omega)).mono ?_
                    rintro e wd ⟨rfl, hbn⟩
                    dsimp only
                    have hGc := (hbn.cell hGl).trans hGc
                    have hGl := Nat.lt_of_lt_of_le hGl hbn.size
                    have hBC : Below wz.heap.size wz wd := below_then hBC hbn
                    have hBXn := (unhide HBX).below hBC
                    have hHeld := And.intro (hBXn.2.1 1 _ rfl) (hBXn.2.1 2 _ rfl)
                    have xln := hBXn.1
                    clear hBXn
                    refine hK.out _ _ hHeld (fun _ => ?_)
                    clear hK K
                    (try simp only [Act.put, List.setIfInBounds_toArray, List.set_cons_zero, List.set_cons_succ])
                    refine wpAnyH_take (i := 10) (v := ?va10) rfl (by kernel_rfl) (by kernel_rfl) (by kernel_rfl) (fun _ _ _ h => h) (Or.inl ⟨by rfl, ?ya10⟩) (by assumption) ?ra10
                    case ya10 => (intro w0 hSw; (try dsimp only at hSw); go_simp; (try with_reducible rfl))
                    (try simp only [Act.put, List.setIfInBounds_toArray, List.set_cons_zero, List.set_cons_succ])
                    refine wpAnyH_take (i := 11) (v := ?va11) rfl (by kernel_rfl) (by kernel_rfl) (by kernel_rfl) (fun _ _ _ h => h) (Or.inl ⟨by rfl, ?ya11⟩) (by assumption) ?ra11
                    case ya11 => (intro w0 hSw; (try dsimp only at hSw); go_simp; (try with_reducible rfl))
                    (try simp only [Act.put, List.setIfInBounds_toArray, List.set_cons_zero, List.set_cons_succ])
                    refine wpAnyH_ready (rs := [14]) (by kernel_rfl) (by simp) ?_
                    refine (AllReadyH.cons rfl (fun K hK => ?_) AllReadyH.nil)
                    go_simp
                    refine (dec_any tn _ (by omega)).mono ?_
                    rintro e we ⟨rfl, hbn⟩
                    dsimp only
                    have hGc := (hbn.cell hGl).trans hGc
                    have hGl := Nat.lt_of_lt_of_le hGl hbn.size
                    have hBC : Below wz.heap.size wz we := below_then hBC hbn
                    have hBXn := (unhide HBX).below hBC
                    have hHeld := And.intro (hBXn.2.1 1 _ rfl) (hBXn.2.1 2 _ rfl)
                    have xln := hBXn.1
                    clear hBXn
                    refine hK.out _ _ hHeld (fun _ => ?_)
                    clear hK K
                    (try simp only [Act.put, List.setIfInBounds_toArray, List.set_cons_zero, List.set_cons_succ])
                    refine wpAnyH_take (i := 15) (v := ?va12) rfl (by kernel_rfl) (by kernel_rfl) (by kernel_rfl) (fun _ _ _ h => h) (Or.inl ⟨by rfl, ?ya12⟩) (by assumption) ?ra12
                    case ya12 => (intro w0 hSw; (try dsimp only at hSw); go_simp; (try with_reducible rfl))
                    (try simp only [Act.put, List.setIfInBounds_toArray, List.set_cons_zero, List.set_cons_succ])
                    refine wpAnyH_take (i := 16) (v := ?va13) rfl (by kernel_rfl) (by kernel_rfl) (by kernel_rfl) (fun _ _ _ h => h) (Or.inl ⟨by rfl, ?ya13⟩) (by assumption) ?ra13
                    case ya13 => (intro w0 hSw; (try dsimp only at hSw); go_simp; (try with_reducible rfl))
                    (try simp only [Act.put, List.setIfInBounds_toArray, List.set_cons_zero, List.set_cons_succ])
                    refine wpAnyH_take (i := 17) (v := ?va14) rfl (by kernel_rfl) (by kernel_rfl) (by kernel_rfl) (fun _ _ _ h => h) (Or.inl ⟨by rfl, ?ya14⟩) (by assumption) ?ra14
                    case ya14 => (intro w0 hSw; (try dsimp only at hSw); go_simp; (try with_reducible rfl))
                    (try simp only [Act.put, List.setIfInBounds_toArray, List.set_cons_zero, List.set_cons_succ])
                    refine wpAnyH_done (by kernel_rfl) ?_ _

                    go_wp2_with fail
                    exact ⟨⟨j + 1, _, rfl, rfl, hjl, HN, below_then (unhide HBZ) hBC⟩, by simp [intOf]; omega⟩
                  · go_simp
                    refine (dec_any fn _ (by omega)).mono ?_
                    rintro e wd ⟨rfl, hbn⟩
                    dsimp only
                    have hGc := (hbn.cell hGl).trans hGc
                    have hGl := Nat.lt_of_lt_of_le hGl hbn.size
                    have hBC : Below wz.heap.size wz wd := below_then hBC hbn
                    have hBXn := (unhide HBX).below hBC
                    have hHeld := And.intro (hBXn.2.1 1 _ rfl) (hBXn.2.1 2 _ rfl)
                    have xln := hBXn.1
                    clear hBXn
                    refine hK.out _ _ hHeld (fun _ => ?_)
                    clear hK K
                    (try simp only [Act.put, List.setIfInBounds_toArray, List.set_cons_zero, List.set_cons_succ])
                    refine wpAnyH_ready (rs := [5, 14]) (by kernel_rfl) (by simp) ?_
                    refine (AllReadyH.cons rfl (fun K hK => ?_) (AllReadyH.cons rfl (fun K hK => ?_) AllReadyH.nil))
                    · have hcv := conv_at _ _ _ hGc
                      go_simp
                      clear hcv
                      refine hK.out _ _ hHeld (fun _ => ?_)
                      clear hK K
                      (try simp only [Act.put, List.setIfInBounds_toArray, List.set_cons_zero, List.set_cons_succ])
                      refine wpAnyH_take (i := 6) (v := ?va15) rfl (by kernel_rfl) (by kernel_rfl) (by kernel_rfl) (fun _ _ _ h => h) (Or.inl ⟨by rfl, ?ya15⟩) (by assumption) ?ra15
                      case ya15 => (intro w0 hSw; (try dsimp only at hSw); go_simp; (try with_reducible rfl))
                      (try simp only [Act.put, List.setIfInBounds_toArray, List.set_cons_zero, List.set_cons_succ])
                      refine wpAnyH_take (i := 10) (v := ?va16) rfl (by kernel_rfl) (by kernel_rfl) (by kernel_rfl) (fun _ _ _ h => h) (Or.inl ⟨by rfl, ?ya16⟩) (by assumption) ?ra16
                      case ya16 => (intro w0 hSw; (try dsimp only at hSw); go_simp; (try with_reducible rfl))
                      (try simp only [Act.put, List.setIfInBounds_toArray, List.set_cons_zero, List.set_cons_succ])
                      refine wpAnyH_take (i := 11) (v := ?va17) rfl (by kernel_rfl) (by kernel_rfl) (by kernel_rfl) (fun _ _ _ h => h) (Or.inl ⟨by rfl, ?ya17⟩) (by assumption) ?ra17
                      case ya17 => (intro w0 hSw; (try dsimp only at hSw); go_simp; (try with_reducible rfl))
                      (try simp only [Act.put, List.setIfInBounds_toArray, List.set_cons_zero, List.set_cons_succ])
                      refine wpAnyH_ready (rs := [14]) (by kernel_rfl) (by simp) ?_
                      refine (AllReadyH.cons rfl (fun K hK => ?_) AllReadyH.nil)
                      go_simp
                      refine (dec_any tn _ (by omega)).mono ?_
                      rintro e we ⟨rfl, hbn⟩
                      dsimp only
                      have hGc := (hbn.cell hGl).trans hGc
                      have hGl := Nat.lt_of_lt_of_le hGl hbn.size
                      have hBC : Below wz.heap.size wz we := below_then hBC hbn
                      have hBXn := (unhide HBX).below hBC
                      have hHeld := And.intro (hBXn.2.1 1 _ rfl) (hBXn.2.1 2 _ rfl)
                      have xln := hBXn.1
                      clear hBXn
                      refine hK.out _ _ hHeld (fun _ => ?_)
                      clear hK K
                      (try simp only [Act.put, List.setIfInBounds_toArray, List.set_cons_zero, List.set_cons_succ])
                      refine wpAnyH_take (i := 15) (v := ?va18) rfl (by kernel_rfl) (by kernel_rfl) (by kernel_rfl) (fun _ _ _ h => h) (Or.inl ⟨by rfl, ?ya18⟩) (by assumption) ?ra18
                      case ya18 => (intro w0 hSw; (try dsimp only at hSw); go_simp; (try with_reducible rfl))
                      (try simp only [Act.put, List.setIfInBounds_toArray, List.set_cons_zero, List.set_cons_succ])
                      refine wpAnyH_take (i := 16) (v := ?va19) rfl (by kernel_rfl) (by kernel_rfl) (by kernel_rfl) (fun _ _ _ h => h) (Or.inl ⟨by rfl, ?ya19⟩) (by assumption) ?ra19
                      case ya19 => (intro w0 hSw; (try dsimp only at hSw); go_simp; (try with_reducible rfl))
                      (try simp only [Act.put, List.setIfInBounds_toArray, List.set_cons_zero, List.set_cons_succ])
                      refine wpAnyH_take (i := 17) (v := ?va20) rfl (by kernel_rfl) (by kernel_rfl) (by kernel_rfl) (fun _ _ _ h => h) (Or.inl ⟨by rfl, ?ya20⟩) (by assumption) ?ra20
                      case ya20 => (intro w0 hSw; (try dsimp only at hSw); go_simp; (try with_reducible rfl))
                      (try simp only [Act.put, List.setIfInBounds_toArray, List.set_cons_zero, List.set_cons_succ])
                      refine wpAnyH_done (by kernel_rfl) ?_ _

                      go_wp2_with fail
                      exact ⟨⟨j + 1, _, rfl, rfl, hjl, HN, below_then (unhide HBZ) hBC⟩, by simp [intOf]; omega⟩
                    · go_simp
                      refine (dec_any tn _ (by omega)).mono ?_
                      rintro e we ⟨rfl, hbn⟩
                      dsimp only
                      have hGc := (hbn.cell hGl).trans hGc
                      have hGl := Nat.lt_of_lt_of_le hGl hbn.size
                      have hBC : Below wz.heap.size wz we := below_then hBC hbn
                      have hBXn := (unhide HBX).below hBC
                      have hHeld := And.intro (hBXn.2.1 1 _ rfl) (hBXn.2.1 2 _ rfl)
                      have xln := hBXn.1
                      clear hBXn
                      refine hK.out _ _ hHeld (fun _ => ?_)
                      clear hK K
                      (try simp only [Act.put, List.setIfInBounds_toArray, List.set_cons_zero, List.set_cons_succ])
                      refine wpAnyH_ready (rs := [5]) (by kernel_rfl) (by simp) ?_
                      refine (AllReadyH.cons rfl (fun K hK => ?_) AllReadyH.nil)
                      have hcv := conv_at _ _ _ hGc
                      go_simp
                      clear hcv
                      refine hK.out _ _ hHeld (fun _ => ?_)
                      clear hK K
                      (try simp only [Act.put, List.setIfInBounds_toArray, List.set_cons_zero, List.set_cons_succ])
                      refine wpAnyH_take (i := 6) (v := ?va21) rfl (by kernel_rfl) (by kernel_rfl) (by kernel_rfl) (fun _ _ _ h => h) (Or.inl ⟨by rfl, ?ya21⟩) (by assumption) ?ra21
                      case ya21 => (intro w0 hSw; (try dsimp only at hSw); go_simp; (try with_reducible rfl))
                      (try simp only [Act.put, List.setIfInBounds_toArray, List.set_cons_zero, List.set_cons_succ])
                      refine wpAnyH_take (i := 10) (v := ?va22) rfl (by kernel_rfl) (by kernel_rfl) (by kernel_rfl) (fun _ _ _ h => h) (Or.inl ⟨by rfl, ?ya22⟩) (by assumption) ?ra22
                      case ya22 => (intro w0 hSw; (try dsimp only at hSw); go_simp; (try with_reducible rfl))
                      (try simp only [Act.put, List.setIfInBounds_toArray, List.set_cons_zero, List.set_cons_succ])
                      refine wpAnyH_take (i := 11) (v := ?va23) rfl (by kernel_rfl) (by kernel_rfl) (by kernel_rfl) (fun _ _ _ h => h) (Or.inl ⟨by rfl, ?ya23⟩) (by assumption) ?ra23
                      case ya23 => (intro w0 hSw; (try dsimp only at hSw); go_simp; (try with_reducible rfl))
                      (try simp only [Act.put, List.setIfInBounds_toArray, List.set_cons_zero, List.set_cons_succ])
                      refine wpAnyH_take (i := 15) (v := ?va24) rfl (by kernel_rfl) (by kernel_rfl) (by kernel_rfl) (fun _ _ _ h => h) (Or.inl ⟨by rfl, ?ya24⟩) (by assumption) ?ra24
                      case ya24 => (intro w0 hSw; (try dsimp only at hSw); go_simp; (try with_reducible rfl))
                      (try simp only [Act.put, List.setIfInBounds_toArray, List.set_cons_zero, List.set_cons_succ])
                      refine wpAnyH_take (i := 16) (v := ?va25) rfl (by kernel_rfl) (by kernel_rfl) (by kernel_rfl) (fun _ _ _ h => h) (Or.inl ⟨by rfl, ?ya25⟩) (by assumption) ?ra25
                      case ya25 => (intro w0 hSw; (try dsimp only at hSw); go_simp; (try with_reducible rfl))
                      (try simp only [Act.put, List.setIfInBounds_toArray, List.set_cons_zero, List.set_cons_succ])
                      refine wpAnyH_take (i := 17) (v := ?va26) rfl (by kernel_rfl) (by kernel_rfl) (by kernel_rfl) (fun _ _ _ h => h) (Or.inl ⟨by rfl, ?ya26⟩) (by assumption) ?ra26
                      case ya26 => (intro w0 hSw; (try dsimp only at hSw); go_simp; (try with_reducible rfl))
                      (try simp only [Act.put, List.setIfInBounds_toArray, List.set_cons_zero, List.set_cons_succ])
                      refine wpAnyH_done (by kernel_rfl) ?_ _

                      go_wp2_with fail
                      exact ⟨⟨j + 1, _, rfl, rfl, hjl, HN, below_then (unhide HBZ) hBC⟩, by simp [intOf]; omega⟩
                · go_simp
                  refine (dec_any fn _ (by omega)).mono ?_
                  rintro e wd ⟨rfl, hbn⟩
                  dsimp only
                  have hBC : Below wz.heap.size wz wd := below_then (by repeat (first | with_reducible exact Below.refl _ _ | refine Below.setCell ?_ (by first | omega | (simp <;> omega) | (simp [World.setCell] <;> omega)) _ | refine Below.alloc ?_ (by first | omega | (simp <;> omega) | (simp [World.setCell] <;> omega)) _ | refine Below.drew ?_ | refine below_draws ?_ _ | exact Below.refl _ _)) hbn
                  have hBXn := (unhide HBX).below hBC
                  have hHeld := And.intro (hBXn.2.1 1 _ rfl) (hBXn.2.1 2 _ rfl)
                  have xln := hBXn.1
                  clear hBXn
                  refine hK.out _ _ hHeld (fun _ => ?_)
                  clear hK K
                  (try simp only [Act.put, List.setIfInBounds_toArray, List.set_cons_zero, List.set_cons_succ])
                  refine wpAnyH_ready (rs := [4, 14]) (by kernel_rfl) (by simp) ?_
                  refine (AllReadyH.cons rfl (fun K hK => ?_) (AllReadyH.cons rfl (fun K hK => ?_) AllReadyH.nil))
                  · go_simp
                    have hGb : Boxed (wd.alloc (.cells #[.int .u8 (65 + (k : Int))] 5)) wd.heap.size [.int .u8 (65 + (k : Int))] := (boxed_alloc wd #[.int .u8 (65 + (k : Int))] 5).below (by repeat (first | with_reducible exact Below.refl _ _ | refine Below.setCell ?_ (by first | omega | (simp <;> omega) | (simp [World.setCell] <;> omega)) _ | refine Below.alloc ?_ (by first | omega | (simp <;> omega) | (simp [World.setCell] <;> omega)) _ | refine Below.drew ?_ | refine below_draws ?_ _ | exact Below.refl _ _))
                    have hGc := hGb.2.1 0 _ rfl
                    have hGl := hGb.1
                    clear hGb
                    have hBC : Below wz.heap.size wz (wd.alloc (.cells #[.int .u8 (65 + (k : Int))] 5)) := below_then hBC (by repeat (first | with_reducible exact Below.refl _ _ | refine Below.setCell ?_ (by first | omega | (simp <;> omega) | (simp [World.setCell] <;> omega)) _ | refine Below.alloc ?_ (by first | omega | (simp <;> omega) | (simp [World.setCell] <;> omega)) _ | refine Below.drew ?_ | refine below_draws ?_ _ | exact Below.refl _ _))
                    have hBXn := (unhide HBX).below hBC
                    have hHeld := And.intro (hBXn.2.1 1 _ rfl) (hBXn.2.1 2 _ rfl)
                    have xln := hBXn.1
                    clear hBXn
                    refine hK.out _ _ hHeld (fun _ => ?_)
                    clear hK K
                    (try simp only [Act.put, List.setIfInBounds_toArray, List.set_cons_zero, List.set_cons_succ])
                    refine wpAnyH_ready (rs := [5, 14]) (by kernel_rfl) (by simp) ?_
                    refine (AllReadyH.cons rfl (fun K hK => ?_) (AllReadyH.cons rfl (fun K hK => ?_) AllReadyH.nil))
                    · have hcv := conv_at _ _ _ hGc
                      go_simp
                      clear hcv
                      refine hK.out _ _ hHeld (fun _ => ?_)
                      clear hK K
                      (try simp only [Act.put, List.setIfInBounds_toArray, List.set_cons_zero, List.set_cons_succ])
                      refine wpAnyH_take (i := 6) (v := ?va27) rfl (by kernel_rfl) (by kernel_rfl) (by kernel_rfl) (fun _ _ _ h => h) (Or.inl ⟨by rfl, ?ya27⟩) (by assumption) ?ra27
                      case ya27 => (intro w0 hSw; (try dsimp only at hSw); go_simp; (try with_reducible rfl))
                      (try simp only [Act.put, List.setIfInBounds_toArray, List.set_cons_zero, List.set_cons_succ])
                      refine wpAnyH_take (i := 10) (v := ?va28) rfl (by kernel_rfl) (by kernel_rfl) (by kernel_rfl) (fun _ _ _ h => h) (Or.inl ⟨by rfl, ?ya28⟩) (by assumption) ?ra28
                      case ya28 => (intro w0 hSw; (try dsimp only at hSw); go_simp; (try with_reducible rfl))
                      (try simp only [Act.put, List.setIfInBounds_toArray, List.set_cons_zero, List.set_cons_succ])
                      refine wpAnyH_take (i := 11) (v := ?va29) rfl (by kernel_rfl) (by kernel_rfl) (by kernel_rfl) (fun _ _ _ h => h) (Or.inl ⟨by rfl, ?ya29⟩) (by assumption) ?ra29
                      case ya29 => (intro w0 hSw; (try dsimp only at hSw); go_simp; (try with_reducible rfl))
                      (try simp only [Act.put, List.setIfInBounds_toArray, List.set_cons_zero, List.set_cons_succ])
                      refine wpAnyH_ready (rs := [14]) (by kernel_rfl) (by simp) ?_
                      refine (AllReadyH.cons rfl (fun K hK => ?_) AllReadyH.nil)
                      go_simp
                      refine (dec_any tn _ (by omega)).mono ?_
                      rintro e we ⟨rfl, hbn⟩
                      dsimp only
                      have hGc := (hbn.cell hGl).trans hGc
                      have hGl := Nat.lt_of_lt_of_le hGl hbn.size
                      have hBC : Below wz.heap.size wz we := below_then hBC hbn
                      have hBXn := (unhide HBX).below hBC
                      have hHeld := And.intro (hBXn.2.1 1 _ rfl) (hBXn.2.1 2 _ rfl)
                      have xln := hBXn.1
                      clear hBXn
                      refine hK.out _ _ hHeld (fun _ => ?_)
                      clear hK K
                      (try simp only [Act.put, List.setIfInBounds_toArray, List.set_cons_zero, List.set_cons_succ])
                      refine wpAnyH_take (i := 15) (v := ?va30) rfl (by kernel_rfl) (by kernel_rfl) (by kernel_rfl) (fun _ _ _ h => h) (Or.inl ⟨by rfl, ?ya30⟩) (by assumption) ?ra30
                      case ya30 => (intro w0 hSw; (try dsimp only at hSw); go_simp; (try with_reducible rfl))
                      (try simp only [Act.put, List.setIfInBounds_toArray, List.set_cons_zero, List.set_cons_succ])
                      refine wpAnyH_take (i := 16) (v := ?va31) rfl (by kernel_rfl) (by kernel_rfl) (by kernel_rfl) (fun _ _ _ h => h) (Or.inl ⟨by rfl, ?ya31⟩) (by assumption) ?ra31
                      case ya31 => (intro w0 hSw; (try dsimp only at hSw); go_simp; (try with_reducible rfl))
                      (try simp only [Act.put, List.setIfInBounds_toArray, List.set_cons_zero, List.set_cons_succ])
                      refine wpAnyH_take (i := 17) (v := ?va32) rfl (by kernel_rfl) (by kernel_rfl) (by kernel_rfl) (fun _ _ _ h => h) (Or.inl ⟨by rfl, ?ya32⟩) (by assumption) ?ra32
                      case ya32 => (intro w0 hSw; (try dsimp only at hSw); go_simp; (try with_reducible rfl))
                      (try simp only [Act.put, List.setIfInBounds_toArray, List.set_cons_zero, List.set_cons_succ])
                      refine wpAnyH_done (by kernel_rfl) ?_ _

                      go_wp2_with fail
                      exact ⟨⟨j + 1, _, rfl, rfl, hjl, HN, below_then (unhide HBZ) hBC⟩, by simp [intOf]; omega⟩
                    · go_simp
                      refine (dec_any tn _ (by omega)).mono ?_
                      rintro e we ⟨rfl, hbn⟩
                      dsimp only
                      have hGc := (hbn.cell hGl).trans hGc
                      have hGl := Nat.lt_of_lt_of_le hGl hbn.size
                      have hBC : Below wz.heap.size wz we := below_then hBC hbn
                      have hBXn := (unhide HBX).below hBC
                      have hHeld := And.intro (hBXn.2.1 1 _ rfl) (hBXn.2.1 2 _ rfl)
                      have xln := hBXn.1
                      clear hBXn
                      refine hK.out _ _ hHeld (fun _ => ?_)
                      clear hK K
                      (try simp only [Act.put, List.setIfInBounds_toArray, List.set_cons_zero, List.set_cons_succ])
                      refine wpAnyH_ready (rs := [5]) (by kernel_rfl) (by simp) ?_
                      refine (AllReadyH.cons rfl (fun K hK => ?_) AllReadyH.nil)
                      have hcv := conv_at _ _ _ hGc
                      go_simp
                      clear hcv
                      refine hK.out _ _ hHeld (fun _ => ?_)
                      clear hK K
                      (try simp only [Act.put, List.setIfInBounds_toArray, List.set_cons_zero, List.set_cons_succ])
                      refine wpAnyH_take (i := 6) (v := ?va33) rfl (by kernel_rfl) (by kernel_rfl) (by kernel_rfl) (fun _ _ _ h => h) (Or.inl ⟨by rfl, ?ya33⟩) (by assumption) ?ra33
                      case ya33 => (intro w0 hSw; (try dsimp only at hSw); go_simp; (try with_reducible rfl))
                      (try simp only [Act.put, List.setIfInBounds_toArray, List.set_cons_zero, List.set_cons_succ])
                      refine wpAnyH_take (i := 10) (v := ?va34) rfl (by kernel_rfl) (by kernel_rfl) (by kernel_rfl) (fun _ _ _ h => h) (Or.inl ⟨by rfl, ?ya34⟩) (by assumption) ?ra34
                      case ya34 => (intro w0 hSw; (try dsimp only at hSw); go_simp; (try with_reducible rfl))
                      (try simp only [Act.put, List.setIfInBounds_toArray, List.set_cons_zero, List.set_cons_succ])
                      refine wpAnyH_take (i := 11) (v := ?va35) rfl (by kernel_rfl) (by kernel_rfl) (by kernel_rfl) (fun _ _ _ h => h) (Or.inl ⟨by rfl, ?ya35⟩) (by assumption) ?ra35
                      case ya35 => (intro w0 hSw; (try dsimp only at hSw); go_simp; (try with_reducible rfl))
                      (try simp only [Act.put, List.setIfInBounds_toArray, List.set_cons_zero, List.set_cons_succ])
                      refine wpAnyH_take (i := 15) (v := ?va36) rfl (by kernel_rfl) (by kernel_rfl) (by kernel_rfl) (fun _ _ _ h => h) (Or.inl ⟨by rfl, ?ya36⟩) (by assumption) ?ra36
                      case ya36 => (intro w0 hSw; (try dsimp only at hSw); go_simp; (try with_reducible rfl))
                      (try simp only [Act.put, List.setIfInBounds_toArray, List.set_cons_zero, List.set_cons_succ])
                      refine wpAnyH_take (i := 16) (v := ?va37) rfl (by kernel_rfl) (by kernel_rfl) (by kernel_rfl) (fun _ _ _ h => h) (Or.inl ⟨by rfl, ?ya37⟩) (by assumption) ?ra37
                      case ya37 => (intro w0 hSw; (try dsimp only at hSw); go_simp; (try with_reducible rfl))
                      (try simp only [Act.put, List.setIfInBounds_toArray, List.set_cons_zero, List.set_cons_succ])
                      refine wpAnyH_take (i := 17) (v := ?va38) rfl (by kernel_rfl) (by kernel_rfl) (by kernel_rfl) (fun _ _ _ h => h) (Or.inl ⟨by rfl, ?ya38⟩) (by assumption) ?ra38
                      case ya38 => (intro w0 hSw; (try dsimp only at hSw); go_simp; (try with_reducible rfl))
                      (try simp only [Act.put, List.setIfInBounds_toArray, List.set_cons_zero, List.set_cons_succ])
                      refine wpAnyH_done (by kernel_rfl) ?_ _

                      go_wp2_with fail
                      exact ⟨⟨j + 1, _, rfl, rfl, hjl, HN, below_then (unhide HBZ) hBC⟩, by simp [intOf]; omega⟩
                  · go_simp
                    refine (dec_any tn _ (by omega)).mono ?_
                    rintro e we ⟨rfl, hbn⟩
                    dsimp only
                    have hBC : Below wz.heap.size wz we := below_then hBC hbn
                    have hBXn := (unhide HBX).below hBC
                    have hHeld := And.intro (hBXn.2.1 1 _ rfl) (hBXn.2.1 2 _ rfl)
                    have xln := hBXn.1
                    clear hBXn
                    refine hK.out _ _ hHeld (fun _ => ?_)
                    clear hK K
                    (try simp only [Act.put, List.setIfInBounds_toArray, List.set_cons_zero, List.set_cons_succ])
                    refine wpAnyH_ready (rs := [4]) (by kernel_rfl) (by simp) ?_
                    refine (AllReadyH.cons rfl (fun K hK => ?_) AllReadyH.nil)
                    go_simp
                    have hGb : Boxed (we.alloc (.cells #[.int .u8 (65 + (k : Int))] 5)) we.heap.size [.int .u8 (65 + (k : Int))] := (boxed_alloc we #[.int .u8 (65 + (k : Int))] 5).below (by repeat (first | with_reducible exact Below.refl _ _ | refine Below.setCell ?_ (by first | omega | (simp <;> omega) | (simp [World.setCell] <;> omega)) _ | refine Below.alloc ?_ (by first | omega | (simp <;> omega) | (simp [World.setCell] <;> omega)) _ | refine Below.drew ?_ | refine below_draws ?_ _ | exact Below.refl _ _))
                    have hGc := hGb.2.1 0 _ rfl
                    have hGl := hGb.1
                    clear hGb
                    have hBC : Below wz.heap.size wz (we.alloc (.cells #[.int .u8 (65 + (k : Int))] 5)) := below_then hBC (by repeat (first | with_reducible exact Below.refl _ _ | refine Below.setCell ?_ (by first | omega | (simp <;> omega) | (simp [World.setCell] <;> omega)) _ | refine Below.alloc ?_ (by first | omega | (simp <;> omega) | (simp [World.setCell] <;> omega)) _ | refine Below.drew ?_ | refine below_draws ?_ _ | exact Below.refl _ _))
                    have hBXn := (unhide HBX).below hBC
                    have hHeld := And.intro (hBXn.2.1 1 _ rfl) (hBXn.2.1 2 _ rfl)
                    have xln := hBXn.1
                    clear hBXn
                    refine hK.out _ _ hHeld (fun _ => ?_)
                    clear hK K
                    (try simp only [Act.put, List.setIfInBounds_toArray, List.set_cons_zero, List.set_cons_succ])
                    refine wpAnyH_ready (rs := [5]) (by kernel_rfl) (by simp) ?_
                    refine (AllReadyH.cons rfl (fun K hK => ?_) AllReadyH.nil)
                    have hcv := conv_at _ _ _ hGc
                    go_simp
                    clear hcv
                    refine hK.out _ _ hHeld (fun _ => ?_)
                    clear hK K
                    (try simp only [Act.put, List.setIfInBounds_toArray, List.set_cons_zero, List.set_cons_succ])
                    refine wpAnyH_take (i := 6) (v := ?va39) rfl (by kernel_rfl) (by kernel_rfl) (by kernel_rfl) (fun _ _ _ h => h) (Or.inl ⟨by rfl, ?ya39⟩) (by assumption) ?ra39
                    case ya39 => (intro w0 hSw; (try dsimp only at hSw); go_simp; (try with_reducible rfl))
                    (try simp only [Act.put, List.setIfInBounds_toArray, List.set_cons_zero, List.set_cons_succ])
                    refine wpAnyH_take (i := 10) (v := ?va40) rfl (by kernel_rfl) (by kernel_rfl) (by kernel_rfl) (fun _ _ _ h => h) (Or.inl ⟨by rfl, ?ya40⟩) (by assumption) ?ra40
                    case ya40 => (intro w0 hSw; (try dsimp only at hSw); go_simp; (try with_reducible rfl))
                    (try simp only [Act.put, List.setIfInBounds_toArray, List.set_cons_zero, List.set_cons_succ])
                    refine wpAnyH_take (i := 11) (v := ?va41) rfl (by kernel_rfl) (by kernel_rfl) (by kernel_rfl) (fun _ _ _ h => h) (Or.inl ⟨by rfl, ?ya41⟩) (by assumption) ?ra41
                    case ya41 => (intro w0 hSw; (try dsimp only at hSw); go_simp; (try with_reducible rfl))
                    (try simp only [Act.put, List.setIfInBounds_toArray, List.set_cons_zero, List.set_cons_succ])
                    refine wpAnyH_take (i := 15) (v := ?va42) rfl (by kernel_rfl) (by kernel_rfl) (by kernel_rfl) (fun _ _ _ h => h) (Or.inl ⟨by rfl, ?ya42⟩) (by assumption) ?ra42
                    case ya42 => (intro w0 hSw; (try dsimp only at hSw); go_simp; (try with_reducible rfl))
                    (try simp only [Act.put, List.setIfInBounds_toArray, List.set_cons_zero, List.set_cons_succ])
                    refine wpAnyH_take (i := 16) (v := ?va43) rfl (by kernel_rfl) (by kernel_rfl) (by kernel_rfl) (fun _ _ _ h => h) (Or.inl ⟨by rfl, ?ya43⟩) (by assumption) ?ra43
                    case ya43 => (intro w0 hSw; (try dsimp only at hSw); go_simp; (try with_reducible rfl))
                    (try simp only [Act.put, List.setIfInBounds_toArray, List.set_cons_zero, List.set_cons_succ])
                    refine wpAnyH_take (i := 17) (v := ?va44) rfl (by kernel_rfl) (by kernel_rfl) (by kernel_rfl) (fun _ _ _ h => h) (Or.inl ⟨by rfl, ?ya44⟩) (by assumption) ?ra44
                    case ya44 => (intro w0 hSw; (try dsimp only at hSw); go_simp; (try with_reducible rfl))
                    (try simp only [Act.put, List.setIfInBounds_toArray, List.set_cons_zero, List.set_cons_succ])
                    refine wpAnyH_done (by kernel_rfl) ?_ _

                    go_wp2_with fail
                    exact ⟨⟨j + 1, _, rfl, rfl, hjl, HN, below_then (unhide HBZ) hBC⟩, by simp [intOf]; omega⟩
              · have hxp' : (xp == (i : Int)) = false := by rw [beq_eq_false_iff_ne]; exact hxp
                have HN : Hid (b3 = b2 ++ onGo i k (ps.take (j + 1))) := by rw [unhide HTK, if_neg hxp, nil_ba]; exact unhide HB3
                clear HTK
                go_wp2_with fail
                exact ⟨⟨j + 1, b3, rfl, rfl, hjl, HN, below_then hby (by repeat (first | with_reducible exact Below.refl _ _ | refine Below.setCell ?_ (by first | omega | (simp <;> omega) | (simp [World.setCell] <;> omega)) _ | refine Below.alloc ?_ (by first | omega | (simp <;> omega) | (simp [World.setCell] <;> omega)) _ | refine Below.drew ?_ | refine below_draws ?_ _ | exact Below.refl _ _))⟩, by simp [intOf]; omega⟩
            · have hjl' : ¬ (j : Int) < (ps.length : Int) := by omega
              have hje : j = ps.length := by omega
              have HNB : Hid (b3 = (acc ++ nm) ++ trGo n ts i (List.range (k + 1))) := by
                rw [unhide HSN, unhide HB3, unhide HB2, hje, List.take_length]
                unfold Hid
                simp only [ba_assoc]
              go_wp2_with fail
              exact ⟨⟨k + 1, b3, rfl, rfl, by omega, HNB, by omega, below_then (unhide HB23) hby⟩, by simp [intOf]; omega⟩
        · have hkq' : ¬ (k : Int) < (q : Int) := by omega
          have hke : k = q := by omega
          have hmx2 : ¬ 9223372036854775807 < b2.size + (⟨#[10]⟩ : ByteArray).size := by have : (⟨#[10]⟩ : ByteArray).size = 1 := rfl; omega
          have HNX : Hid (b2 ++ ⟨#[10]⟩ = shGo n ts (i + 1)) := by
            show _ = shGo n ts i ++ lnGo n ts i
            rw [unhide HLN, unhide HB2, unhide HACC, hke, ← unhide HQ]
            simp only [ba_assoc]
          have hsz3 : (b2 ++ ⟨#[10]⟩ : ByteArray).size ≤ 90000 * (i + 1) := by rw [ByteArray.size_append]; have : (⟨#[10]⟩ : ByteArray).size = 1 := rfl; omega
          obtain ⟨b4, hb4⟩ : ∃ b4, b2 ++ ⟨#[10]⟩ = b4 := ⟨_, rfl⟩
          rw [hb4] at HNX hsz3
          have HB4 := hide hb4
          clear hb4
          go_wp2_with fail
          rw [unhide HB4]
          exact ⟨⟨i + 1, b4, rfl, rfl, by omega, HNX, hsz3, below_then (unhide HB12) hbx⟩, by simp [intOf]; omega⟩
    · have hlt' : ¬ (i : Int) < (m : Int) := by omega
      have him : i = m := by omega
      go_wp2_with fail
      go_ret
      refine ⟨⟨_, rfl, Or.inl ⟨unhide HW, ?_⟩⟩, below_then (unhide HB1) hbr⟩
      rw [unhide HACC, him, ← unhide HM]
      rfl
end Go.Proofs.YtbdggfpfpjijoabGreatDoor

