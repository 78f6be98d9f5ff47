import Derived.Test.YtbdggfpfpjijoabGreatDoorMPlain2
import Derived.Test.YtbdggfpfpjijoabGreatDoorMPlain3
import Derived.Test.YtbdggfpfpjijoabGreatDoorMPlain
import Derived.Test.YtbdggfpfpjijoabGreatDoorMSpec9
namespace Go.Proofs.YtbdggfpfpjijoabGreatDoor
open Go.RowKit

def Touch (x y : Pt) : Prop := x.piece = y.piece ∧ x.fr ≤ y.to ∧ y.fr ≤ x.to
def TouchL (ps qs : List Pt) : Prop := ∃ i j, ∃ (h : i < ps.length) (h' : j < qs.length), Touch ps[i] qs[j]

set_option maxRecDepth 100000 in
set_option maxHeartbeats 2000000 in
theorem touch_any (x y : Pt) (w : World) :
  Calls Tryz.prog 159 #[.agg #[.int .i64 x.piece, .int .i64 x.fr, .int .i64 x.to], .agg #[.int .i64 y.piece, .int .i64 y.fr, .int .i64 y.to]] w fun e w' => RetB (Touch x y) e ∧ Below w.heap.size w w' := by
 obtain ⟨xp, xf, xt⟩ := x
 obtain ⟨yp, yf, yt⟩ := y
 dsimp only
 by_cases h1 : xp = yp
 ·subst h1
  by_cases h2 : xf ≤ yt
  ·by_cases h3 : yf ≤ xt
   ·go_enter Tryz.func159, Tryz.ntmps159
    go_wp2
    go_ret
    exact ⟨retB_true ⟨rfl, h2, h3⟩, bw0⟩
   ·go_enter Tryz.func159, Tryz.ntmps159
    go_wp2
    go_ret
    exact ⟨retB_false fun h => by have := h.2.2; dsimp only at this; omega, bw0⟩
  ·go_enter Tryz.func159, Tryz.ntmps159
   go_wp2
   go_ret
   exact ⟨retB_false fun h => by have := h.2.1; dsimp only at this; omega, bw0⟩
 ·have h1b := ne_beq h1
  have H1 := hide h1
  clear h1
  go_enter Tryz.func159, Tryz.ntmps159
  go_wp2
  go_ret
  exact ⟨retB_false fun h => unhide H1 h.1, bw0⟩

set_option maxRecDepth 100000 in
set_option maxHeartbeats 4000000 in
theorem l2touch_any (a b : Option Addr) (ca cb : Nat) (ps qs : List Pt) (w : World) {L L' : Nat} (hp : PtsAt L w a ps) (hq : PtsAt L' w b qs) (hl : ps.length ≤ 1048576) (hl' : qs.length ≤ 1048576) :
  Calls Tryz.prog 61 #[.slice a ps.length ca, .slice b qs.length cb] w fun e w' => RetB (TouchL ps qs) e ∧ Below w.heap.size w w' := by
 go_enter Tryz.func61, Tryz.ntmps61
 go_wp2_with fail
 go_loopw [11] (fun z wr => ∃ k : Nat, k ≤ ps.length ∧ z = .int .i64 k ∧ (∀ i j (h : i < ps.length) (h' : j < qs.length), i < k → ¬ Touch ps[i] qs[j]) ∧ Below w.heap.size w wr) (fun z _ => ps.length - (intOf z).toNat)
 case atStart => exact ⟨0, Nat.zero_le _, rfl, fun i j h h' h0 => by omega, Below.refl _ _⟩
 case round =>
  obtain ⟨k, hk, rfl, hno, hb⟩ := hrel
  have HNO := hide hno
  clear hno
  by_cases hlt : k < ps.length
  ·obtain ⟨pb, poff, rfl, hpb, p0, p1, p2⟩ := hp.below hb k hlt
   have hpb2 := hpb.2
   go_wp2_with fail
   go_loopw [17] (fun z wq => ∃ m : Nat, m ≤ qs.length ∧ z = .int .i64 m ∧ (∀ j (h' : j < qs.length), j < m → ¬ Touch ps[k] qs[j]) ∧ Boxed wq wr.heap.size [.int .i64 ps[k].piece, .int .i64 ps[k].fr, .int .i64 ps[k].to] ∧ Below wr.heap.size wr wq) (fun z _ => qs.length - (intOf z).toNat)
   case atStart => exact ⟨0, Nat.zero_le _, rfl, fun j h' h0 => by omega, boxed_alloc _ _ _, bw0⟩
   case round =>
    clear p0 p1 p2
    obtain ⟨m, hm, rfl, hno2, hBx, hb2⟩ := hrel
    have HNO2 := hide hno2
    clear hno2
    have hbw2 := below_then hb hb2
    by_cases hlt2 : m < qs.length
    ·obtain ⟨qb, qoff, rfl, hqb, q0, q1, q2⟩ := hq.below hbw2 m hlt2
     have hqb2 := hqb.2
     have x0 := hBx.2.1 0 _ rfl
     have x1 := hBx.2.1 1 _ rfl
     have x2 := hBx.2.1 2 _ rfl
     have xl := hBx.1
     have hstep : ¬ Touch ps[k] qs[m] → ∀ j (h' : j < qs.length), j < m + 1 → ¬ Touch ps[k] qs[j] := fun hn j h' h0 => by
      by_cases e : j = m
      ·subst e
       exact hn
      ·exact unhide HNO2 j h' (by omega)
     generalize hX : ps[k] = X at *
     have HX := hide hX
     clear hX
     generalize hY : qs[m] = Y at *
     have HY := hide hY
     clear hY
     obtain ⟨xp, xf, xt⟩ := X
     obtain ⟨yp, yf, yt⟩ := Y
     have HSTEP := hide hstep
     clear hstep HNO2
     dsimp only at x0 x1 x2 q0 q1 q2
     by_cases h1 : xp = yp
     ·subst h1
      by_cases h2 : xf ≤ yt
      ·by_cases h3 : yf ≤ xt
       ·go_wp2
        go_ret
        exact ⟨retB_true ⟨k, m, hlt, hlt2, by rw [unhide HX, unhide HY]; exact ⟨rfl, h2, h3⟩⟩, below_then hbw2 bw0⟩
       ·go_wp2
        refine ⟨⟨m + 1, by omega, by go_num, unhide HSTEP fun h => h3 h.2.2, hBx.below bw0, below_then hb2 bw0⟩, by simp [intOf]; omega⟩
      ·go_wp2
       refine ⟨⟨m + 1, by omega, by go_num, unhide HSTEP fun h => h2 h.2.1, hBx.below bw0, below_then hb2 bw0⟩, by simp [intOf]; omega⟩
     ·have h1b := ne_beq h1
      have H1 := hide h1
      clear h1
      go_wp2
      refine ⟨⟨m + 1, by omega, by go_num, unhide HSTEP fun h => unhide H1 h.1, hBx.below bw0, below_then hb2 bw0⟩, by simp [intOf]; omega⟩
    ·go_wp2
     refine ⟨⟨k + 1, by omega, by go_num, fun i j h h' h0 => ?_, hbw2⟩, by simp [intOf]; omega⟩
     by_cases e : i = k
     ·subst e
      exact unhide HNO2 j h' (by omega)
     ·exact unhide HNO i j h h' (by omega)
  ·go_wp2
   go_ret
   exact ⟨retB_false fun ⟨i, j, h, h', ht⟩ => unhide HNO i j h h' (by omega) ht, hb⟩

end Go.Proofs.YtbdggfpfpjijoabGreatDoor

namespace Go.Proofs.YtbdggfpfpjijoabGreatDoor
open Go.RowKit

def ptF (p : Pt) : List Value := [.int .i64 p.piece, .int .i64 p.fr, .int .i64 p.to]
theorem ptF_len (p : Pt) : (ptF p).length = 3 := rfl

theorem info_Part : (Tryz.prog.info? 138).map (fun i => (i.zero, i.size, i.bytes)) = some (some (.agg #[.int .i64 0, .int .i64 0, .int .i64 0]), 3, 24) := by kernel_rfl

abbrev PtRow (w : World) (base : Nat) (v : Value) (ps : List Pt) : Prop := Row w base 138 3 ptF v ps

set_option maxRecDepth 100000 in
set_option maxHeartbeats 2000000 in
theorem l2part_any (v : Value) (n : Nt) (s : St) (a b : Int) (w : World) {L : Nat} (hv : NetAt L w v n) (hs : StepOk n s) (hlen : lenOf n s.piece ≤ 10000000) (h0 : 0 ≤ lenOf n s.piece) (ha : 0 ≤ a ∧ a ≤ 10000000) (hb : 0 ≤ b ∧ b ≤ 10000000) :
  Calls Tryz.prog 91 #[v, .int .i64 s.piece, .int .i64 s.way, .int .i64 a, .int .i64 b] w fun e w' => e = .returned (.agg #[.int .i64 (partOf n s a b).piece, .int .i64 (partOf n s a b).fr, .int .i64 (partOf n s a b).to]) ∧ Below w.heap.size w w' := by
 obtain ⟨x, c, ca, cc, rfl, hp, hj⟩ := hv
 obtain ⟨p, y⟩ := s
 obtain ⟨⟨h1, h2⟩, hy⟩ := hs
 dsimp only at h1 h2 hy hlen h0 ⊢
 obtain ⟨pb, poff, rfl, hpb, c1⟩ := hp.len h1 h2
 obtain ⟨pn, rfl⟩ := Int.eq_ofNat_of_zero_le h1
 simp only [Int.toNat_natCast] at c1
 have w1 := wrap_small (x := lenOf n pn - b) (by omega) (by omega)
 have w2 := wrap_small (x := lenOf n pn - a) (by omega) (by omega)
 rcases hy with rfl | rfl
 ·have HP : Hid (partOf n ⟨pn, 1⟩ a b = ⟨pn, a, b⟩) := by unfold Hid; simp [partOf]
  go_enter Tryz.func91, Tryz.ntmps91
  go_wp2
  exact bodyPost_ret (v := .agg #[.int .i64 pn, .int .i64 a, .int .i64 b]) (by simp [results, Tryz.results91, go_sem]) rfl ⟨by rw [unhide HP], bw0⟩
 ·have HP : Hid (partOf n ⟨pn, -1⟩ a b = ⟨pn, lenOf n pn - b, lenOf n pn - a⟩) := by unfold Hid; simp [partOf]
  go_enter Tryz.func91, Tryz.ntmps91
  go_wp2
  exact bodyPost_ret (v := .agg #[.int .i64 pn, .int .i64 (lenOf n pn - b), .int .i64 (lenOf n pn - a)]) (by simp [results, Tryz.results91, go_sem]) rfl ⟨by rw [unhide HP], bw0⟩

def bodyParts (n : Nt) (t : Tr) : List Pt := bodyFrom n t.long (behind n t.front) ⟨t.front.piece, t.front.way⟩ t.back

set_option maxRecDepth 100000 in
set_option maxHeartbeats 4000000 in
theorem l2body_any (v tv : Value) (n : Nt) (t : Tr) (w : World) {L L' : Nat} (hv : NetAt L w v n) (htv : TrAt L' w tv t) (hG : NetGood n) (hF : TrainFits n t) :
  Calls Tryz.prog 62 #[v, tv] w fun e w' => ∃ u, e = .returned u ∧ PtRow w' w.heap.size u (bodyParts n t) ∧ Below w.heap.size w w' := by
 have hvv := hv
 obtain ⟨x, c, ca, cc, rfl, hp, hj⟩ := hv
 obtain ⟨ba, bc, rfl, hst⟩ := htv
 unfold bodyParts
 obtain ⟨⟨fp, fa, fy⟩, long, back⟩ := t
 obtain ⟨hS, hlong, h200, hback⟩ := hF
 dsimp only at hst hlong h200 hback hS ⊢
 have hsteps := backOk_steps hback
 have hlen := hG.len hS.1.1 hS.1.2
 dsimp only at hlen
 have hbeh : 0 ≤ behind n ⟨fp, fa, fy⟩ ∧ behind n ⟨fp, fa, fy⟩ ≤ 10000000 := by
  have h3 := hS.2.2
  dsimp only at h3
  unfold behind room
  split <;> dsimp only <;> omega
 obtain ⟨i0, hi, hz0, hz1, hz2⟩ := info_parts info_Part
 have HST := hide hsteps
 have HS := hide hS
 have HB := hide hback
 clear hsteps hback
 go_enter Tryz.func62, Tryz.ntmps62
 go_wp2_with fail
 refine (l2behind_any _ n ⟨fp, fa, fy⟩ _ (hvv.below ?_) hS hlen.2).mono ?_
 ·exact bw0
 rintro e w1 ⟨rfl, hb1⟩
 have hbw1 : Below w.heap.size w w1 := below_then bw0 hb1
 have hBn1 : Boxed w1 w.heap.size [.slice x n.pieces.length ca, .slice c n.joints.length cc] := ((boxed_alloc _ _ _).alloc _).below hb1
 have hBt1 : Boxed w1 (w.heap.size + 1) [.int .i64 fp, .int .i64 fa, .int .i64 fy, .int .i64 long, .slice ba back.length bc] := (boxedN _ _ _ (by simp)).below hb1
 have b0 := hBt1.2.1 0 _ rfl
 have b2 := hBt1.2.1 2 _ rfl
 have n1 := hBt1.1
 obtain ⟨beh, hbe⟩ : ∃ beh, behind n ⟨fp, fa, fy⟩ = beh := ⟨_, rfl⟩
 rw [hbe] at HB hbeh ⊢
 have HBE := hide hbe
 clear hbe hS
 go_wp2_with fail
 go_loopw [5, 6, 7, 9] (fun u l y z wr => ∃ (k : Nat) (left al hv : Int) (at_ : St) (ps : List Pt), k ≤ back.length ∧ l = .int .i64 left ∧ y = .int .i64 al ∧ z = .int .i64 k ∧ left = long - (hv - al) ∧ (0 < left ∧ left ≤ 100000) ∧ (0 ≤ al ∧ al ≤ 10000000) ∧ StepOk n at_
   ∧ Hid (BackOk n long hv at_ (back.drop k)) ∧ Hid (ps ++ bodyFrom n left al at_ (back.drop k) = bodyFrom n long beh ⟨fp, fy⟩ back) ∧ ps.length ≤ k
   ∧ Hid (PtRow wr (w1.heap.size + 1) u ps) ∧ Boxed wr w.heap.size [.slice x n.pieces.length ca, .slice c n.joints.length cc] ∧ Boxed wr (w.heap.size + 1) [.int .i64 fp, .int .i64 fa, .int .i64 fy, .int .i64 long, .slice ba back.length bc]
   ∧ Boxed wr w1.heap.size [.int .i64 at_.piece, .int .i64 at_.way] ∧ Below w.heap.size w wr) (fun _ _ _ z _ => back.length - (intOf z).toNat)
 case atStart => exact ⟨0, long, beh, beh, ⟨fp, fy⟩, [], Nat.zero_le _, rfl, rfl, rfl, by omega, by omega, hbeh, ⟨(unhide HS).1, (unhide HS).2.1⟩, hide (by simpa using unhide HB), hide (by simp), by simp, hide (Row.nil _ _ _ _ _), hBn1.alloc _, hBt1.alloc _, boxed_alloc _ _ _, below_then hbw1 bw0⟩
 case round =>
  clear b0 b2 hBn1 hBt1
  obtain ⟨k, left, al, hv, at_, ps, hk, rfl, rfl, rfl, hleft, hl01, hal, hok, HBK, HPS, hpl, HROW, hBn, hBt, hBa, hb⟩ := hrel
  have HOK := hide hok
  have HLEFT := hide hleft
  have nn := hBn.1
  have nt := hBt.1
  have na := hBa.1
  have hszr := hb.size
  have hsz1 := hbw1.size
  have d0 := hBa.2.1 0 _ rfl
  have d1 := hBa.2.1 1 _ rfl
  have dz := hBa.2.2
  have a0 := hBn.2.1 0 _ rfl
  have a1 := hBn.2.1 1 _ rfl
  have t4 := hBt.2.1 4 _ rfl
  have hlat := hG.len hok.1.1 hok.1.2
  clear hok
  by_cases hlt : k < back.length
  ·have hdrop : back.drop k = back[k] :: back.drop (k + 1) := List.drop_eq_getElem_cons hlt
   obtain ⟨sb, soff, rfl, hsb, s0w, s1w⟩ := hst k hlt
   have s0 := (hb.cell hsb.2).trans s0w
   have s1 := (hb.cell hsb.2).trans s1w
   have hoks := unhide HST back[k] (List.getElem_mem hlt)
   generalize hx : back[k] = sk at *
   obtain ⟨sp, sy⟩ := sk
   have hlss := hG.len hoks.1.1 hoks.1.2
   have HBK2 := unhide HBK
   rw [hdrop] at HBK2
   simp only [BackOk] at HBK2
   have hlo : al < left := by have := HBK2.2.1; omega
   have HB4 := hide HBK2.2.2.2
   have HOKS := hide hoks
   have HD := hide hdrop
   clear HBK2 HBK hx hdrop hleft
   dsimp only at s0 s1 s0w s1w hlss
   have hsp := hoks.1
   dsimp only at hsp
   clear hoks
   obtain ⟨spn, rfl⟩ := Int.eq_ofNat_of_zero_le hsp.1
   obtain ⟨pb, poff, rfl, hpb, c1w⟩ := hp.len hsp.1 hsp.2
   have c1 := (hb.cell hpb).trans c1w
   simp only [Int.toNat_natCast] at c1
   have hpb2 : pb < wr.heap.size := by omega
   have hsb2 : sb < wr.heap.size := by omega
   have ne5 : ¬ sb = w1.heap.size := by omega
   have ne1 : ¬ pb = w1.heap.size := by omega
   have ne2 : ¬ w.heap.size = w1.heap.size := by omega
   have ne4 : ¬ w.heap.size + 1 = w1.heap.size := by omega
   have HSTEP : ∀ (qs : List Pt), Hid (qs ++ bodyFrom n (left - al) (lenOf n spn) ⟨spn, sy⟩ (back.drop (k + 1)) = bodyFrom n left al at_ (back.drop k)) → Hid ((ps ++ qs) ++ bodyFrom n (left - al) (lenOf n spn) ⟨spn, sy⟩ (back.drop (k + 1)) = bodyFrom n long beh ⟨fp, fy⟩ back) := fun qs h => by
    unfold Hid at *
    rw [List.append_assoc, h, HPS]
   by_cases h0 : al = 0
   ·subst h0
    have q1 : (left == 0) = false := by simp; omega
    have q2 : ((k : Int) == (back.length : Int)) = false := by simp; omega
    go_wp2
    refine ⟨⟨k + 1, left, lenOf n spn, hv + lenOf n spn, ⟨spn, sy⟩, ps, by omega, rfl, rfl, by go_num, by have := unhide HLEFT; omega, hl01, by omega, unhide HOKS, HB4, ?_, by omega, hide (((unhide HROW).setCell (by simp) _).setCell (by simp) _), ?_, ?_, ?_, ?_⟩, by simp [intOf]; omega⟩
    ·have := HSTEP [] (hide (by
      rw [unhide HD]
      simp only [bodyFrom]
      have e1 : (if (0 : Int) > left then left else 0) = 0 := by split <;> omega
      rw [e1, if_neg (by omega), if_neg (show ¬ left - 0 = 0 by omega)]))
     simpa using this
    ·exact (hBn.apart (p := ⟨w1.heap.size, 0, none⟩) (show w.heap.size ≠ w1.heap.size by omega) _).apart (p := ⟨w1.heap.size, 1, none⟩) (show w.heap.size ≠ w1.heap.size by omega) _
    ·exact (hBt.apart (p := ⟨w1.heap.size, 0, none⟩) (show w.heap.size + 1 ≠ w1.heap.size by omega) _).apart (p := ⟨w1.heap.size, 1, none⟩) (show w.heap.size + 1 ≠ w1.heap.size by omega) _
    ·exact hBa.set2 _ _
    ·exact (bw1 hb)
   ·have hp0 : 0 < al := by omega
    go_wp2_with fail
    refine (l2part_any _ n at_ 0 al _ (hvv.below hb) (unhide HOK) (by omega) (by omega) (by omega) hal).mono ?_
    rintro e w2 ⟨rfl, hb2⟩
    have hrow2 := (unhide HROW).below hb2
    have hbw2 := below_then hb hb2
    have hBn2 := hBn.below hb2
    have hBt2 := hBt.below hb2
    have hBa2 := hBa.below hb2
    obtain ⟨pt, hpt⟩ : ∃ pt, partOf n at_ 0 al = pt := ⟨_, rfl⟩
    have HPT := hide hpt
    rw [hpt]
    obtain ⟨qp, qf, qt⟩ := pt
    clear hpt d0 d1 dz a0 a1 t4
    dsimp only
    go_wp2_with (at_builtin; refine wpList_append_own _ rfl (.tmp 33) (.tmp 44) 38 rfl (w1.heap.size + 1) 138 i0 (.agg #[.int .i64 0, .int .i64 0, .int .i64 0]) 3 24 Tryz.underlying38 hi hz0 hz1 hz2 rfl (by decide) _ _ _ rfl (hrow2.alloc _) ⟨w2.heap.size, 0, none⟩ 1 1 (ptF ⟨qp, qf, qt⟩) rfl rfl ?c1 ?c2 ?c3 ?c4 ?c5 ?_)
    case c1 =>
     intro j u hj
     match j, hj with
     | 0, hj => simp [ptF] at hj; subst hj; simp [Addr.add]
     | 1, hj => simp [ptF] at hj; subst hj; simp [Addr.add]
     | 2, hj => simp [ptF] at hj; subst hj; simp [Addr.add]
    case c2 => intro u hu; simp [ptF] at hu; rcases hu with rfl | rfl | rfl <;> rfl
    case c3 => unfold maxLen; omega
    case c4 => omega
    case c5 => have := hb2.size; simp; omega
    intro v' w3 hown' hgrow _
    have hrow3 : PtRow w3 (w1.heap.size + 1) v' (ps ++ [⟨qp, qf, qt⟩]) := Row.snoc hown'
    have hsz2 := hb2.size
    have hb3 : Below w.heap.size w w3 := row_below_grown hrow2 hbw2 hgrow (by omega) (by omega)
    have hBn3 := row_boxed_grown hrow2 hgrow (by omega) hBn2
    have hBt3 := row_boxed_grown hrow2 hgrow (by omega) hBt2
    have hBa3 := row_boxed_grown hrow2 hgrow (by omega) hBa2
    have HROW3 := hide hrow3
    clear hrow3 hown' hgrow hrow2 hBn2 hBt2 hBa2
    have d0 := hBa3.2.1 0 _ rfl
    have d1 := hBa3.2.1 1 _ rfl
    have dz := hBa3.2.2
    have a0 := hBn3.2.1 0 _ rfl
    have t4 := hBt3.2.1 4 _ rfl
    have n3 := hBa3.1
    have n4 := hBt3.1
    have c1' := (hb3.cell hpb).trans c1w
    simp only [Int.toNat_natCast] at c1'
    have s0' := (hb3.cell hsb.2).trans s0w
    have s1' := (hb3.cell hsb.2).trans s1w
    clear s0 s1 s0w s1w c1 c1w
    have q1 : (left - al == 0) = false := by simp; omega
    have q2 : ((k : Int) == (back.length : Int)) = false := by simp; omega
    go_wp2
    refine ⟨⟨k + 1, left - al, lenOf n spn, hv + lenOf n spn, ⟨spn, sy⟩, ps ++ [⟨qp, qf, qt⟩], by omega, rfl, rfl, by go_num, by have := unhide HLEFT; omega, ⟨by omega, by omega⟩, by omega, unhide HOKS, HB4, ?_, by simp; omega, hide (((unhide HROW3).setCell (by simp) _).setCell (by simp) _), ?_, ?_, ?_, ?_⟩, by simp [intOf]; omega⟩
    ·exact HSTEP [⟨qp, qf, qt⟩] (hide (by
      rw [unhide HD]
      simp only [bodyFrom]
      have e1 : (if al > left then left else al) = al := by split <;> omega
      rw [e1, if_pos hp0, if_neg (show ¬ left - al = 0 by omega), show al - al = 0 by omega, unhide HPT]))
    ·exact (hBn3.apart (p := ⟨w1.heap.size, 0, none⟩) (show w.heap.size ≠ w1.heap.size by omega) _).apart (p := ⟨w1.heap.size, 1, none⟩) (show w.heap.size ≠ w1.heap.size by omega) _
    ·exact (hBt3.apart (p := ⟨w1.heap.size, 0, none⟩) (show w.heap.size + 1 ≠ w1.heap.size by omega) _).apart (p := ⟨w1.heap.size, 1, none⟩) (show w.heap.size + 1 ≠ w1.heap.size by omega) _
    ·exact hBa3.set2 _ _
    ·exact (bw1 hb3)
  ·have hkl : k = back.length := by omega
   have hdrop : back.drop k = [] := by rw [hkl]; simp
   rw [hdrop] at HBK HPS
   have hBK := unhide HBK
   simp only [BackOk] at hBK
   have hlo : left ≤ al := by omega
   have e1 : (if al > left then left else al) = left := by split <;> omega
   have HPS' : Hid (ps ++ [partOf n at_ (al - left) al] = bodyFrom n long beh ⟨fp, fy⟩ back) := by
    have := unhide HPS
    simp only [bodyFrom] at this
    rw [e1, if_pos hl01.1] at this
    exact this
   clear HBK HPS hBK hleft e1 hdrop hkl
   by_cases hgt : left < al
   ·go_wp2_with fail
    refine (l2part_any _ n at_ (al - left) al _ (hvv.below hb) (unhide HOK) (by omega) (by omega) (by omega) hal).mono ?_
    rintro e w2 ⟨rfl, hb2⟩
    have hrow2 := (unhide HROW).below hb2
    have hbw2 := below_then hb hb2
    have hBt2 := hBt.below hb2
    obtain ⟨pt, hpt⟩ : ∃ pt, partOf n at_ (al - left) al = pt := ⟨_, rfl⟩
    have HPT := hide hpt
    rw [hpt]
    obtain ⟨qp, qf, qt⟩ := pt
    clear hpt d0 d1 dz a0 a1 t4
    dsimp only
    go_wp2_with (at_builtin; refine wpList_append_own _ rfl (.tmp 33) (.tmp 44) 38 rfl (w1.heap.size + 1) 138 i0 (.agg #[.int .i64 0, .int .i64 0, .int .i64 0]) 3 24 Tryz.underlying38 hi hz0 hz1 hz2 rfl (by decide) _ _ _ rfl (hrow2.alloc _) ⟨w2.heap.size, 0, none⟩ 1 1 (ptF ⟨qp, qf, qt⟩) rfl rfl ?d1 ?d2 ?d3 ?d4 ?d5 ?_)
    case d1 =>
     intro j u hj
     match j, hj with
     | 0, hj => simp [ptF] at hj; subst hj; simp [Addr.add]
     | 1, hj => simp [ptF] at hj; subst hj; simp [Addr.add]
     | 2, hj => simp [ptF] at hj; subst hj; simp [Addr.add]
    case d2 => intro u hu; simp [ptF] at hu; rcases hu with rfl | rfl | rfl <;> rfl
    case d3 => unfold maxLen; omega
    case d4 => omega
    case d5 => have := hb2.size; simp; omega
    intro v' w3 hown' hgrow _
    have hrow3 : PtRow w3 (w1.heap.size + 1) v' (ps ++ [⟨qp, qf, qt⟩]) := Row.snoc hown'
    have hsz2 := hb2.size
    have hb3 : Below w.heap.size w w3 := row_below_grown hrow2 hbw2 hgrow (by omega) (by omega)
    have hBt3 := row_boxed_grown hrow2 hgrow (by omega) hBt2
    have t4 := hBt3.2.1 4 _ rfl
    have HROW3 := hide hrow3
    clear hrow3 hown' hgrow hrow2 hBt2
    go_wp2
    go_ret
    refine ⟨v', rfl, ?_, hb3⟩
    rw [unhide HBE, ← unhide HPS', unhide HPT]
    exact (unhide HROW3).mono (by omega)
   ·have heq : al = left := by omega
    subst heq
    go_wp2_with fail
    refine (l2part_any _ n at_ 0 al _ (hvv.below hb) (unhide HOK) (by omega) (by omega) (by omega) hal).mono ?_
    rintro e w2 ⟨rfl, hb2⟩
    have hrow2 := (unhide HROW).below hb2
    have hbw2 := below_then hb hb2
    have hBt2 := hBt.below hb2
    rw [show al - al = 0 by omega] at HPS'
    obtain ⟨pt, hpt⟩ : ∃ pt, partOf n at_ 0 al = pt := ⟨_, rfl⟩
    have HPT := hide hpt
    rw [hpt]
    obtain ⟨qp, qf, qt⟩ := pt
    clear hpt d0 d1 dz a0 a1 t4
    dsimp only
    go_wp2_with (at_builtin; refine wpList_append_own _ rfl (.tmp 33) (.tmp 44) 38 rfl (w1.heap.size + 1) 138 i0 (.agg #[.int .i64 0, .int .i64 0, .int .i64 0]) 3 24 Tryz.underlying38 hi hz0 hz1 hz2 rfl (by decide) _ _ _ rfl (hrow2.alloc _) ⟨w2.heap.size, 0, none⟩ 1 1 (ptF ⟨qp, qf, qt⟩) rfl rfl ?e1 ?e2 ?e3 ?e4 ?e5 ?_)
    case e1 =>
     intro j u hj
     match j, hj with
     | 0, hj => simp [ptF] at hj; subst hj; simp [Addr.add]
     | 1, hj => simp [ptF] at hj; subst hj; simp [Addr.add]
     | 2, hj => simp [ptF] at hj; subst hj; simp [Addr.add]
    case e2 => intro u hu; simp [ptF] at hu; rcases hu with rfl | rfl | rfl <;> rfl
    case e3 => unfold maxLen; omega
    case e4 => omega
    case e5 => have := hb2.size; simp; omega
    intro v' w3 hown' hgrow _
    have hrow3 : PtRow w3 (w1.heap.size + 1) v' (ps ++ [⟨qp, qf, qt⟩]) := Row.snoc hown'
    have hsz2 := hb2.size
    have hb3 : Below w.heap.size w w3 := row_below_grown hrow2 hbw2 hgrow (by omega) (by omega)
    have hBt3 := row_boxed_grown hrow2 hgrow (by omega) hBt2
    have t4 := hBt3.2.1 4 _ rfl
    have HROW3 := hide hrow3
    clear hrow3 hown' hgrow hrow2 hBt2
    go_wp2
    go_ret
    refine ⟨v', rfl, ?_, hb3⟩
    rw [unhide HBE, ← unhide HPS', unhide HPT]
    exact (unhide HROW3).mono (by omega)

end Go.Proofs.YtbdggfpfpjijoabGreatDoor

