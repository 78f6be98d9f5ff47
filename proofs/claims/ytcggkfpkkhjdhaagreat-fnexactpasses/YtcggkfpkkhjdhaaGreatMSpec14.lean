import Derived.Test.YtcggkfpkkhjdhaaGreatMPlain3
import Derived.Test.YtcggkfpkkhjdhaaGreatMPlain
import Derived.Test.YtcggkfpkkhjdhaaGreatMSpec9
import Derived.Test.YtcggkfpkkhjdhaaGreatMKt22
namespace Go.Proofs.YtcggkfpkkhjdhaaGreat
open Go.RowKit

def ptF (p : Pt) : List Value := [.int .i64 p.piece, .int .i64 p.fr, .int .i64 p.to]
theorem ptF_len (p : Pt) : (ptF p).length = 3 := rfl

theorem info_Part : (Tryz.prog.info? 141).map (fun i => (i.zero, i.size, i.bytes)) = some (some (.agg #[.int .i64 0, .int .i64 0, .int .i64 0]), 3, 24) := by kernel_rfl

abbrev PtRow (w : World) (base : Nat) (v : Value) (ps : List Pt) : Prop := Row w base 141 3 ptF v ps

set_option maxRecDepth 100000 in
set_option maxHeartbeats 2000000 in
theorem l2part_any (v : Value) (n : Nt) (s : St) (a b : Int) (w : World) {L : Nat} (hv : NetAt L w v n) (hs : StepOk n s) (hlen : lenOf n s.piece ≤ 10000000) (h0 : 0 ≤ lenOf n s.piece) (ha : 0 ≤ a ∧ a ≤ 10000000) (hb : 0 ≤ b ∧ b ≤ 10000000) :
    Calls Tryz.prog 65 #[v, .int .i64 s.piece, .int .i64 s.way, .int .i64 a, .int .i64 b] w fun e w' => e = .returned (.agg #[.int .i64 (partOf n s a b).piece, .int .i64 (partOf n s a b).fr, .int .i64 (partOf n s a b).to]) ∧ Below w.heap.size w w' := by
  obtain ⟨x, c, ca, cc, rfl, hp, hj⟩ := hv
  obtain ⟨p, y⟩ := s
  obtain ⟨⟨h1, h2⟩, hy⟩ := hs
  dsimp only at h1 h2 hy hlen h0 ⊢
  obtain ⟨pb, poff, rfl, hpb, c1⟩ := hp.len h1 h2
  obtain ⟨pn, rfl⟩ := Int.eq_ofNat_of_zero_le h1
  simp only [Int.toNat_natCast] at c1
  have w1 := wrap_small (x := lenOf n pn - b) (by omega) (by omega)
  have w2 := wrap_small (x := lenOf n pn - a) (by omega) (by omega)
  rcases hy with rfl | rfl
  · have HP : Hid (partOf n ⟨pn, 1⟩ a b = ⟨pn, a, b⟩) := by unfold Hid; simp [partOf]
    go_enter Tryz.func65, Tryz.ntmps65
    go_wp2
    exact bodyPost_ret (v := .agg #[.int .i64 pn, .int .i64 a, .int .i64 b]) (by simp [results, Tryz.results65, go_sem]) rfl ⟨by rw [unhide HP], bw0⟩
  · have HP : Hid (partOf n ⟨pn, -1⟩ a b = ⟨pn, lenOf n pn - b, lenOf n pn - a⟩) := by unfold Hid; simp [partOf]
    go_enter Tryz.func65, Tryz.ntmps65
    go_wp2
    exact bodyPost_ret (v := .agg #[.int .i64 pn, .int .i64 (lenOf n pn - b), .int .i64 (lenOf n pn - a)]) (by simp [results, Tryz.results65, go_sem]) rfl ⟨by rw [unhide HP], bw0⟩

def bodyParts (n : Nt) (t : Tr) : List Pt := bodyFrom n t.long (behind n t.front) ⟨t.front.piece, t.front.way⟩ t.back



end Go.Proofs.YtcggkfpkkhjdhaaGreat

namespace Go.Proofs.YtcggkfpkkhjdhaaGreat
open Go.RowKit

theorem spot_behind' {n : Nt} (hG : NetGood n) {s : Sp} (hs : SpotOk n s) : 0 ≤ behind n s ∧ behind n s ≤ 10000000 := by
  have hlen := hG.len hs.1.1 hs.1.2
  have h3 := hs.2.2
  unfold behind room
  split <;> omega

def enterSp (n : Nt) (e : Ed) : Sp := if e.side = 0 then ⟨e.piece, 0, 1⟩ else ⟨e.piece, lenOf n e.piece, -1⟩

set_option maxRecDepth 100000 in
set_option maxHeartbeats 2000000 in
theorem l2enter_any (v : Value) (n : Nt) (e0 : Ed) (w : World) {L : Nat} (hv : NetAt L w v n) (he : EdFits n.pieces.length e0) :
    Calls Tryz.prog 62 #[v, .agg #[.int .i64 e0.piece, .int .i64 e0.side]] w fun e w' => e = .returned (.agg #[.int .i64 (enterSp n e0).piece, .int .i64 (enterSp n e0).at_, .int .i64 (enterSp n e0).way]) ∧ Below w.heap.size w w' := by
  obtain ⟨x, c, ca, cc, rfl, hp, hj⟩ := hv
  obtain ⟨p, sd⟩ := e0
  obtain ⟨⟨h1, h2⟩, h3, h4⟩ := he
  dsimp only at h1 h2 h3 h4 ⊢
  obtain ⟨pb, poff, rfl, hpb, c1⟩ := hp.len h1 h2
  obtain ⟨pn, rfl⟩ := Int.eq_ofNat_of_zero_le h1
  simp only [Int.toNat_natCast] at c1
  have hpb1 : pb < w.heap.size + 1 := by omega
  have hpb2 : pb < w.heap.size + 1 + 1 := by omega
  by_cases hs : sd = 0
  · subst hs
    have HP : Hid (enterSp n ⟨pn, 0⟩ = ⟨pn, 0, 1⟩) := by unfold Hid; simp [enterSp]
    go_enter Tryz.func62, Tryz.ntmps62
    go_wp2
    exact bodyPost_ret (v := .agg #[.int .i64 pn, .int .i64 0, .int .i64 1]) (by simp [results, Tryz.results62, go_sem]) rfl ⟨by rw [unhide HP], bw0⟩
  · have hsb := ne_beq hs
    have HP : Hid (enterSp n ⟨pn, sd⟩ = ⟨pn, lenOf n pn, -1⟩) := by unfold Hid; simp [enterSp, hs]
    clear hs
    go_enter Tryz.func62, Tryz.ntmps62
    go_wp2_with fail
    go_region
    go_wp2
    exact bodyPost_ret (v := .agg #[.int .i64 pn, .int .i64 (lenOf n pn), .int .i64 (-1)]) (by simp [results, Tryz.results62, go_sem]) rfl ⟨by rw [unhide HP], bw0⟩

theorem enter_twd {n : Nt} {e : Ed} (he : EdFits n.pieces.length e) : (⟨(enterSp n e).piece, -(enterSp n e).way⟩ : St) = twd e := by
  obtain ⟨p, sd⟩ := e
  have := he.2
  dsimp only at this
  unfold enterSp twd
  by_cases h : sd = 0
  · simp [h]
  · have h1 : sd = 1 := by omega
    simp [h1]



end Go.Proofs.YtcggkfpkkhjdhaaGreat

namespace Go.Proofs.YtcggkfpkkhjdhaaGreat
open Go.RowKit

theorem trim_size (w : World) (a : Addr) (v : Value) : (w.setCell a v).heap.size = w.heap.size := by simp [World.setCell]

theorem below_trim {B N M : Nat} {a w : World} (h : Below B a w) (hM : B ≤ M) (hN : B ≤ N) (u v0 v1 v2 v3 v4 : Value) :
    Below B a ((((((w.setCell ⟨M, 4, none⟩ u).setCell ⟨N, 0, none⟩ v0).setCell ⟨N, 1, none⟩ v1).setCell ⟨N, 2, none⟩ v2).setCell ⟨N, 3, none⟩ v3).setCell ⟨N, 4, none⟩ v4) :=
  (((((h.setCell (p := ⟨M, 4, none⟩) hM u).setCell (p := ⟨N, 0, none⟩) hN v0).setCell (p := ⟨N, 1, none⟩) hN v1).setCell (p := ⟨N, 2, none⟩) hN v2).setCell (p := ⟨N, 3, none⟩) hN v3).setCell (p := ⟨N, 4, none⟩) hN v4

set_option maxRecDepth 100000 in
set_option maxHeartbeats 8000000 in
theorem l3trim_any (v tv : Value) (n : Nt) (t : Tr) (w : World) {L L' : Nat} (hv : NetAt L w v n) (htv : TrAt L' w tv t) (hG : NetGood n) (hS : SpotOk n t.front) (hsteps : ∀ x ∈ t.back, StepOk n x) (h200 : t.back.length ≤ 1000) :
    Calls Tryz.prog 57 #[v, tv] w fun e w' => ∃ a cap, e = .returned (.agg #[.int .i64 t.front.piece, .int .i64 t.front.at_, .int .i64 t.front.way, .int .i64 t.long, .slice a (takeLen n t.long (behind n t.front) t.back).length cap]) ∧ StRow w' w.heap.size (.slice a (takeLen n t.long (behind n t.front) t.back).length cap) (takeLen n t.long (behind n t.front) t.back) ∧ Below w.heap.size w w' := by
  have hvv := hv
  obtain ⟨x, c, ca, cc, rfl, hp, hj⟩ := hv
  obtain ⟨ba, bc, rfl, hst⟩ := htv
  obtain ⟨⟨fp, fa, fy⟩, long, back⟩ := t
  dsimp only at hst h200 hS hsteps ⊢
  have hlen := hG.len hS.1.1 hS.1.2
  have hbeh := spot_behind' hG hS
  dsimp only at hlen
  obtain ⟨i0, hi, hz0, hz1, hz2⟩ := info_parts info_Step
  have HST := hide hsteps
  have HS := hide hS
  clear hsteps
  go_enter Tryz.func57, Tryz.ntmps57
  go_wp2_with fail
  refine (l2behind_any _ n ⟨fp, fa, fy⟩ _ (hvv.below ?_) hS hlen.2).mono ?_
  · exact bw0
  rintro e w1 ⟨rfl, hb1⟩
  have hbw1 : Below w.heap.size w w1 := below_then bw0 hb1
  have hN1 : Boxed w1 w.heap.size [.slice x n.pieces.length ca, .slice c n.joints.length cc] := (((boxed_alloc _ _ _).alloc _).alloc _).below hb1
  have hT1 : Boxed w1 (w.heap.size + 1) [.int .i64 fp, .int .i64 fa, .int .i64 fy, .int .i64 long, .slice ba back.length bc] := ((boxedN _ _ _ (by simp)).alloc _).below hb1
  have hR1 : Boxed w1 (w.heap.size + 1 + 1) [.int .i64 0, .int .i64 0, .int .i64 0, .int .i64 0, .slice none 0 0] := (boxedN _ _ _ (by simp)).below hb1
  have b4 := hT1.2.1 4 _ rfl
  have n1 := hR1.1
  obtain ⟨beh, hbe⟩ : ∃ beh, behind n ⟨fp, fa, fy⟩ = beh := ⟨_, rfl⟩
  rw [hbe] at hbeh ⊢
  have HBE := hide hbe
  clear hbe hS
  go_wp2_with fail
  go_loopw [5, 6, 16] (fun y u z wr => ∃ (k : Nat) (hv : Int) (ps : List St), k ≤ back.length ∧ y = .int .i64 hv ∧ z = .int .i64 k ∧ (0 ≤ hv ∧ hv ≤ 10000000 + 10000000 * (k : Int)) ∧ Hid (ps ++ takeLen n long hv (back.drop k) = takeLen n long beh back) ∧ ps.length ≤ k
      ∧ Hid (StRow wr (w.heap.size + 1 + 1 + 1) u ps) ∧ Boxed wr w.heap.size [.slice x n.pieces.length ca, .slice c n.joints.length cc] ∧ Boxed wr (w.heap.size + 1) [.int .i64 fp, .int .i64 fa, .int .i64 fy, .int .i64 long, .slice ba back.length bc]
      ∧ Boxed wr (w.heap.size + 1 + 1) [.int .i64 0, .int .i64 0, .int .i64 0, .int .i64 0, .slice none 0 0] ∧ Below w.heap.size w wr) (fun _ _ z _ => back.length - (intOf z).toNat)
  case atStart => exact ⟨0, beh, [], Nat.zero_le _, rfl, rfl, by omega, hide (by simp), by simp, hide (Row.nil _ _ _ _ _), hN1, hT1, hR1, hbw1⟩
  case round =>
    clear b4
    obtain ⟨k, hv, ps, hk, rfl, rfl, hhv, HPS, hpl, HROW, hN, hT, hR, hb⟩ := hrel
    have nn := hN.1
    have nt := hT.1
    have nr := hR.1
    have hszr := hb.size
    have a0 := hN.2.1 0 _ rfl
    have t3' := hT.2.1 3 _ rfl
    by_cases hlt : k < back.length
    · have hdrop : back.drop k = back[k] :: back.drop (k + 1) := List.drop_eq_getElem_cons hlt
      obtain ⟨sb, soff, rfl, hsb, s0w, s1w⟩ := hst k hlt
      have s0 := (hb.cell hsb.2).trans s0w
      have s1 := (hb.cell hsb.2).trans s1w
      have hoks := unhide HST back[k] (List.getElem_mem hlt)
      generalize hx : back[k] = sk at *
      obtain ⟨sp, sy⟩ := sk
      have hlss := hG.len hoks.1.1 hoks.1.2
      have hsp := hoks.1
      have HD := hide hdrop
      dsimp only at s0 s1 s0w s1w hlss hsp
      clear hx hdrop hoks
      have hsb2 : sb < wr.heap.size := by omega
      by_cases hge : long ≤ hv
      · have HFIN : Hid (ps = takeLen n long beh back) := by
          unfold Hid
          rw [← unhide HPS, unhide HD]
          simp [takeLen, show ¬ hv < long by omega]
        clear s0w s1w t3' a0
        have a0 := hN.2.1 0 _ rfl
        have hrow := unhide HROW
        rw [unhide HFIN] at hrow
        obtain ⟨ua, ucap, rfl, huc, _⟩ := stRow_at hrow
        have HR := hide hrow
        have HLT := hide hrow.lt
        clear hrow HROW
        have t0 := hT.2.1 0 _ rfl
        have t1 := hT.2.1 1 _ rfl
        have t2 := hT.2.1 2 _ rfl
        have t3 := hT.2.1 3 _ rfl
        have t4 := hT.2.1 4 _ rfl
        have tz := hT.2.2
        have r0 := hR.2.1 0 _ rfl
        have r1 := hR.2.1 1 _ rfl
        have r2 := hR.2.1 2 _ rfl
        have r3 := hR.2.1 3 _ rfl
        have r4 := hR.2.1 4 _ rfl
        have rz := hR.2.2
        go_wp2
        refine bodyPost_ret (v := .agg #[.int .i64 fp, .int .i64 fa, .int .i64 fy, .int .i64 long, .slice ua (takeLen n long beh back).length ucap]) (by simp [results, Tryz.results57, go_sem, nr, r0, r1, r2, r3, r4]) rfl ⟨ua, ucap, by rw [unhide HBE], ?_, ?_⟩
        · rw [unhide HBE]
          refine ((unhide HR).mono (show w.heap.size ≤ _ by omega)).block fun k hk => ?_
          have hk2 := unhide HLT k hk
          have hne : k ≠ w.heap.size + 1 + 1 := by omega
          have hne2 : k ≠ w.heap.size + 1 := by omega
          rw [((Below.refl _ _).alloc (Nat.le_refl _) _).block k (by simpa [World.setCell] using hk2.2), Below.heap_setCell _ _ _ k (by simpa using hne), Below.heap_setCell _ _ _ k (by simpa using hne), Below.heap_setCell _ _ _ k (by simpa using hne), Below.heap_setCell _ _ _ k (by simpa using hne), Below.heap_setCell _ _ _ k (by simpa using hne), Below.heap_setCell _ _ _ k (by simpa using hne2)]
        · exact (below_trim hb (by omega) (by omega) _ _ _ _ _ _).alloc (below_trim hb (by omega) (by omega) _ _ _ _ _ _).size _
      · have hlo : hv < long := by omega
        have HSTEP : Hid ((ps ++ [⟨sp, sy⟩]) ++ takeLen n long (hv + lenOf n sp) (back.drop (k + 1)) = takeLen n long beh back) := by
          unfold Hid
          rw [← unhide HPS, unhide HD]
          simp [takeLen, hlo]
        obtain ⟨spn, rfl⟩ := Int.eq_ofNat_of_zero_le hsp.1
        obtain ⟨pb, poff, rfl, hpb, c1w⟩ := hp.len hsp.1 hsp.2
        simp only [Int.toNat_natCast] at c1w
        go_wp2_with (at_builtin; refine wpList_append_own _ rfl (.tmp 24) (.tmp 26) 45 rfl (w.heap.size + 1 + 1 + 1) 89 i0 (.agg #[.int .i64 0, .int .i64 0]) 2 16 Tryz.underlying45 hi hz0 hz1 hz2 rfl (by decide) _ _ _ rfl ((unhide HROW).below bw0) _ 1 1 (stF ⟨spn, sy⟩) rfl rfl ?c1 (st_one _) ?c3 ?c4 ?c5 ?_)
        case c1 => exact fun j u h => by simpa [stF] using h
        case c3 => unfold maxLen; omega
        case c4 => omega
        case c5 => first | omega | (simp; omega)
        intro v' w3 hown' hgrow _
        have hrow1 := (unhide HROW).below (show Below wr.heap.size wr (wr.alloc (.cells #[.int .i64 spn, .int .i64 sy] 89)) from bw0)
        have hbA : Below w.heap.size w (wr.alloc (.cells #[.int .i64 spn, .int .i64 sy] 89)) := (by repeat (first | with_reducible exact Below.refl _ _ | with_reducible exact hb | refine bwS ?_ | refine bwA ?_ | refine Below.drew ?_ | refine below_draws ?_ _ | exact hb | exact Below.refl _ _))
        have hrow3 : StRow w3 (w.heap.size + 1 + 1 + 1) v' (ps ++ [⟨spn, sy⟩]) := Row.snoc hown'
        have hb3 : Below w.heap.size w w3 := row_below_grown hrow1 hbA hgrow (by omega) hbA.size
        have hN3 := row_boxed_grown hrow1 hgrow (by omega) (hN.alloc _)
        have hT3 := row_boxed_grown hrow1 hgrow (by omega) (hT.alloc _)
        have hR3 := row_boxed_grown hrow1 hgrow (by omega) (hR.alloc _)
        have hs3 : w3.cell? ⟨wr.heap.size, 0, none⟩ = some (.int .i64 spn) := by
          have hne : some wr.heap.size ≠ u6.ownBlock := fun hc => by have := ((unhide HROW).lt _ hc.symm).2; omega
          rw [hgrow.cell_far ⟨wr.heap.size, 0, none⟩ (by simp; omega) hne, World.cell?_alloc_past _ _ _ (by simp)]
          exact (boxed_alloc wr #[.int .i64 spn, .int .i64 sy] 89).2.1 0 _ rfl
        have HROW3 := hide hrow3
        clear hrow3 hown' hgrow hrow1 a0 t3'
        have a0 := hN3.2.1 0 _ rfl
        have p1 := (hb3.cell hpb).trans c1w
        go_wp2
        refine ⟨⟨k + 1, hv + lenOf n spn, ps ++ [⟨spn, sy⟩], by omega, rfl, by go_num, ⟨by omega, by omega⟩, HSTEP, by simp; omega, HROW3, hN3, hT3, hR3, hb3⟩, by simp [intOf]; omega⟩
    · have hkl : k = back.length := by omega
      have HFIN : Hid (ps = takeLen n long beh back) := by
        unfold Hid
        rw [← unhide HPS, hkl]
        simp [takeLen]
      clear t3' a0 hkl
      have hrow := unhide HROW
      rw [unhide HFIN] at hrow
      obtain ⟨ua, ucap, rfl, huc, _⟩ := stRow_at hrow
      have HR := hide hrow
      have HLT := hide hrow.lt
      clear hrow HROW
      have t0 := hT.2.1 0 _ rfl
      have t1 := hT.2.1 1 _ rfl
      have t2 := hT.2.1 2 _ rfl
      have t3 := hT.2.1 3 _ rfl
      have t4 := hT.2.1 4 _ rfl
      have tz := hT.2.2
      have r0 := hR.2.1 0 _ rfl
      have r1 := hR.2.1 1 _ rfl
      have r2 := hR.2.1 2 _ rfl
      have r3 := hR.2.1 3 _ rfl
      have r4 := hR.2.1 4 _ rfl
      have rz := hR.2.2
      go_wp2
      refine bodyPost_ret (v := .agg #[.int .i64 fp, .int .i64 fa, .int .i64 fy, .int .i64 long, .slice ua (takeLen n long beh back).length ucap]) (by simp [results, Tryz.results57, go_sem, r0, r1, r2, r3, r4]) rfl ⟨ua, ucap, by rw [unhide HBE], ?_, ?_⟩
      · rw [unhide HBE]
        refine ((unhide HR).mono (show w.heap.size ≤ _ by omega)).block fun k hk => ?_
        have hk2 := unhide HLT k hk
        have hne : k ≠ w.heap.size + 1 + 1 := by omega
        have hne2 : k ≠ w.heap.size + 1 := by omega
        rw [Below.heap_setCell _ _ _ k (by simpa using hne), Below.heap_setCell _ _ _ k (by simpa using hne), Below.heap_setCell _ _ _ k (by simpa using hne), Below.heap_setCell _ _ _ k (by simpa using hne), Below.heap_setCell _ _ _ k (by simpa using hne), Below.heap_setCell _ _ _ k (by simpa using hne2)]
      · exact below_trim hb (by omega) (by omega) _ _ _ _ _ _

end Go.Proofs.YtcggkfpkkhjdhaaGreat

