import Derived.Test.YtbdggfpfpjijoabGreatG13
import Derived.Test.YtbdggfpfpjijoabGreatG14
namespace Go.Proofs.YtbdggfpfpjijoabGreat
open Go.RowKit

/-- The last step of a train; where its last end is. -/
def lastOf (s : St) : List St → St
  | [] => s
  | x :: r => lastOf x r
theorem lastOf_take (s : St) (xs : List St) (k : Nat) (h : k < xs.length) : lastOf s (xs.take (k + 1)) = xs[k] := by
  induction xs generalizing s k with
  | nil => simp at h
  | cons x r ih =>
    cases k with
    | zero => simp [lastOf]
    | succ k => simpa [lastOf] using ih x k (by simpa using h)

def tailOf (n : Nt) (t : Tr) : Sp :=
  ⟨(lastOf ⟨t.front.piece, t.front.way⟩ t.back).piece,
   if (lastOf ⟨t.front.piece, t.front.way⟩ t.back).way = -1 then lenOf n (lastOf ⟨t.front.piece, t.front.way⟩ t.back).piece - (behind n t.front - t.long + sumLen n t.back) else behind n t.front - t.long + sumLen n t.back,
   (lastOf ⟨t.front.piece, t.front.way⟩ t.back).way⟩

/-- Tail's answer. -/
def RetSp (p : Prop) (s : Sp) (e : Ending) : Prop := (p ∧ e = .returned (.agg #[.int .i64 s.piece, .int .i64 s.at_, .int .i64 s.way])) ∨ (¬ p ∧ e = .returned (.agg #[.int .i64 0, .int .i64 0, .int .i64 0]))

theorem lastOf_ok {n : Nt} {s : St} {xs : List St} (h : StepOk n s) (hx : ∀ x ∈ xs, StepOk n x) : StepOk n (lastOf s xs) := by
  induction xs generalizing s with
  | nil => exact h
  | cons x r ih => exact ih (hx x (by simp)) (fun y hy => hx y (by simp [hy]))

theorem backOk_steps {n : Nt} {long : Int} : ∀ {h : Int} {ah : St} {xs : List St}, BackOk n long h ah xs → ∀ x ∈ xs, StepOk n x := by
  intro h ah xs
  induction xs generalizing h ah with
  | nil => intro _ x hx; simp at hx
  | cons y r ih =>
    intro hb x hx
    simp only [BackOk] at hb
    rcases List.mem_cons.1 hx with rfl | hx
    · exact hb.1
    · exact ih hb.2.2.2 x hx

theorem sumLen_take (n : Nt) (xs : List St) (k : Nat) (h : k < xs.length) : sumLen n (xs.take (k + 1)) = sumLen n (xs.take k) + lenOf n xs[k].piece := by
  rw [List.take_succ_eq_append_getElem h, sumLen_append, sumLen_cons, sumLen_nil]
  omega

set_option maxRecDepth 100000 in
set_option maxHeartbeats 4000000 in
theorem l2tail_any (v tv : Value) (n : Nt) (t : Tr) (w : World) {L L' : Nat} (hv : NetAt L w v n) (htv : TrAt L' w tv t) (hG : NetGood n) (hF : TrainFits n t) :
    Calls Tryz.prog 44 #[v, tv] w fun e w' => e = .returned (.agg #[.int .i64 (tailOf n t).piece, .int .i64 (tailOf n t).at_, .int .i64 (tailOf n t).way]) ∧ Below w.heap.size w w' := by
  have hvv := hv
  obtain ⟨x, c, ca, cc, rfl, hp, hj⟩ := hv
  obtain ⟨ba, bc, rfl, hst⟩ := htv
  obtain ⟨⟨fp, fa, fy⟩, long, back⟩ := t
  obtain ⟨hS, hlong, h200, hback⟩ := hF
  dsimp only at hst hlong h200 hback hS ⊢
  have hsteps := backOk_steps hback
  have hlen := hG.len hS.1.1 hS.1.2
  dsimp only at hlen
  have hbeh : 0 ≤ behind n ⟨fp, fa, fy⟩ ∧ behind n ⟨fp, fa, fy⟩ ≤ 10000000 := by
    have h3 := hS.2.2
    dsimp only at h3
    unfold behind room
    split <;> dsimp only <;> omega
  have HST := hide hsteps
  have HS := hide hS
  clear hsteps hback
  go_enter Tryz.func44, Tryz.ntmps44
  go_wp2_with fail
  refine (l2behind_any _ n ⟨fp, fa, fy⟩ _ (hvv.below ?_) hS hlen.2).mono ?_
  · exact (by repeat (first | with_reducible exact Below.refl _ _ | refine Below.setCell ?_ (by first | omega | (simp <;> omega) | (simp [World.setCell] <;> omega)) _ | refine Below.alloc ?_ (by first | omega | (simp <;> omega) | (simp [World.setCell] <;> omega)) _ | refine Below.drew ?_ | refine below_draws ?_ _ | exact Below.refl _ _))
  rintro e w1 ⟨rfl, hb1⟩
  have hbw1 : Below w.heap.size w w1 := below_then (by repeat (first | with_reducible exact Below.refl _ _ | refine Below.setCell ?_ (by first | omega | (simp <;> omega) | (simp [World.setCell] <;> omega)) _ | refine Below.alloc ?_ (by first | omega | (simp <;> omega) | (simp [World.setCell] <;> omega)) _ | refine Below.drew ?_ | refine below_draws ?_ _ | exact Below.refl _ _)) hb1
  have hBn1 : Boxed w1 w.heap.size [.slice x n.pieces.length ca, .slice c n.joints.length cc] := (((boxed_alloc _ _ _).alloc _).alloc _).below hb1
  have hBt1 : Boxed w1 (w.heap.size + 1) [.int .i64 fp, .int .i64 fa, .int .i64 fy, .int .i64 long, .slice ba back.length bc] := ((boxedN _ _ _ (by simp)).alloc _).below hb1
  have hBr1 : Boxed w1 (w.heap.size + 1 + 1) [.int .i64 0, .int .i64 0, .int .i64 0] := (boxedN _ _ _ (by simp)).below hb1
  have b0 := hBt1.2.1 0 _ rfl
  have b2 := hBt1.2.1 2 _ rfl
  have b4 := hBt1.2.1 4 _ rfl
  have n1 := hBt1.1
  have hBn1s := hBn1.1
  have hBr1s := hBr1.1
  clear hS
  go_wp2_with fail
  go_loopw [5, 6, 27] (fun l y z wr => ∃ (k : Nat) (left al : Int), k ≤ back.length ∧ l = .int .i64 left ∧ y = .int .i64 al ∧ z = .int .i64 k ∧ al - left = behind n ⟨fp, fa, fy⟩ - long + sumLen n (back.take k) ∧ (0 ≤ al ∧ al ≤ 10000000) ∧ (-(10000000 * (k : Int)) ≤ left ∧ left ≤ 100000)
      ∧ Boxed wr w.heap.size [.slice x n.pieces.length ca, .slice c n.joints.length cc] ∧ Boxed wr (w.heap.size + 1 + 1) [.int .i64 0, .int .i64 0, .int .i64 0]
      ∧ Boxed wr w1.heap.size [.int .i64 (lastOf ⟨fp, fy⟩ (back.take k)).piece, .int .i64 (lastOf ⟨fp, fy⟩ (back.take k)).way] ∧ Below w.heap.size w wr) (fun _ _ z _ => back.length - (intOf z).toNat)
  case atStart => exact ⟨0, _, _, Nat.zero_le _, rfl, rfl, rfl, by simp [sumLen_nil], hbeh, by omega, hBn1.alloc _, hBr1.alloc _, boxed_alloc _ _ _, below_then hbw1 (by repeat (first | with_reducible exact Below.refl _ _ | refine Below.setCell ?_ (by first | omega | (simp <;> omega) | (simp [World.setCell] <;> omega)) _ | refine Below.alloc ?_ (by first | omega | (simp <;> omega) | (simp [World.setCell] <;> omega)) _ | refine Below.drew ?_ | refine below_draws ?_ _ | exact Below.refl _ _))⟩
  case round =>
    clear b0 b2 b4 hBn1 hBt1 hBr1
    obtain ⟨k, left, al, hk, rfl, rfl, rfl, hsum, hal, hleft, hBn, hBr, hBa, hb⟩ := hrel
    have HSUM := hide hsum
    clear hsum
    have a0 := hBn.2.1 0 _ rfl
    have d0 := hBa.2.1 0 _ rfl
    have d1 := hBa.2.1 1 _ rfl
    have dz := hBa.2.2
    have nn := hBn.1
    have na := hBa.1
    have hsz1 := hbw1.size
    by_cases hlt : k < back.length
    · obtain ⟨sb, soff, rfl, hsb, s0, s1⟩ := hst.below hb k hlt
      have hok := unhide HST back[k] (List.getElem_mem hlt)
      have hlast := lastOf_take ⟨fp, fy⟩ back k hlt
      have hsl := sumLen_take n back k hlt
      generalize hx : back[k] = sk at *
      obtain ⟨sp, sy⟩ := sk
      dsimp only at s0 s1 hsl
      obtain ⟨⟨h0, h1⟩, _⟩ := hok
      dsimp only at h0 h1
      obtain ⟨spn, rfl⟩ := Int.eq_ofNat_of_zero_le h0
      obtain ⟨pb, poff, rfl, hpb, c1w⟩ := hp.len h0 h1
      have c1 := (hb.cell hpb).trans c1w
      have hpb2 : pb < wr.heap.size := by have := hb.size; omega
      have ne1 : ¬ pb = w1.heap.size := by omega
      have ne2 : ¬ w.heap.size = w1.heap.size := by have := hBn1s; omega
      have ne3 : ¬ wr.heap.size = w1.heap.size := by omega
      have hls := hG.len h0 h1
      simp only [Int.toNat_natCast] at c1
      have HX := hide hx
      have HLAST := hide hlast
      have HSL := hide hsl
      clear hx hlast hsl
      go_wp2
      refine ⟨⟨k + 1, left - al, lenOf n spn, by omega, rfl, rfl, by go_num, ?_, by omega, ⟨by omega, by omega⟩, ?_, ?_, ?_, ?_⟩, by simp [intOf]; omega⟩
      · rw [unhide HSL]; have := unhide HSUM; omega
      · exact ((hBn.apart (p := ⟨w1.heap.size, 0, none⟩) (show w.heap.size ≠ w1.heap.size by omega) _).apart (p := ⟨w1.heap.size, 1, none⟩) (show w.heap.size ≠ w1.heap.size by omega) _).alloc _
      · exact ((hBr.apart (p := ⟨w1.heap.size, 0, none⟩) (show w.heap.size + 1 + 1 ≠ w1.heap.size by have := hBr1s; omega) _).apart (p := ⟨w1.heap.size, 1, none⟩) (show w.heap.size + 1 + 1 ≠ w1.heap.size by have := hBr1s; omega) _).alloc _
      · rw [unhide HLAST]
        exact (hBa.set2 _ _).alloc _
      · exact (by repeat (first | with_reducible exact Below.refl _ _ | with_reducible exact hb | refine Below.setCell ?_ (by first | omega | (simp <;> omega) | (simp [World.setCell] <;> omega)) _ | refine Below.alloc ?_ (by first | omega | (simp <;> omega) | (simp [World.setCell] <;> omega)) _ | refine Below.drew ?_ | refine below_draws ?_ _ | exact hb | exact Below.refl _ _))
    · have hkl : k = back.length := by omega
      subst hkl
      have hsum := unhide HSUM
      rw [List.take_of_length_le (Nat.le_refl _)] at hsum d0 d1
      have hlok : StepOk n (lastOf ⟨fp, fy⟩ back) := lastOf_ok ⟨(unhide HS).1, (unhide HS).2.1⟩ (unhide HST)
      have HT : Hid (tailOf n ⟨⟨fp, fa, fy⟩, long, back⟩ = ⟨(lastOf ⟨fp, fy⟩ back).piece, if (lastOf ⟨fp, fy⟩ back).way = -1 then lenOf n (lastOf ⟨fp, fy⟩ back).piece - (al - left) else al - left, (lastOf ⟨fp, fy⟩ back).way⟩) := by
        unfold Hid tailOf
        dsimp only
        rw [hsum]
      clear hsum HSUM hBa
      generalize lastOf ⟨fp, fy⟩ back = last at *
      obtain ⟨lp, ly⟩ := last
      obtain ⟨⟨h0, h1⟩, hy⟩ := hlok
      dsimp only at h0 h1 hy d0 d1
      obtain ⟨pn, rfl⟩ := Int.eq_ofNat_of_zero_le h0
      obtain ⟨pb, poff, rfl, hpb, c1w⟩ := hp.len h0 h1
      have c1 := (hb.cell hpb).trans c1w
      have hpb2 : pb < wr.heap.size := by have := hb.size; omega
      have hls := hG.len h0 h1
      simp only [Int.toNat_natCast] at c1
      have r0 := hBr.2.1 0 _ rfl
      have r1 := hBr.2.1 1 _ rfl
      have r2 := hBr.2.1 2 _ rfl
      have rz := hBr.2.2
      have rl := hBr.1
      have hszw := hb.size
      rcases hy with rfl | rfl
      · go_wp2
        refine bodyPost_ret (v := .agg #[.int .i64 pn, .int .i64 (al - left), .int .i64 1]) (by simp [results, Tryz.results44, go_sem, r0, r1, r2, rl]) rfl ⟨?_, (by repeat (first | with_reducible exact Below.refl _ _ | with_reducible exact hb | refine Below.setCell ?_ (by first | omega | (simp <;> omega) | (simp [World.setCell] <;> omega)) _ | refine Below.alloc ?_ (by first | omega | (simp <;> omega) | (simp [World.setCell] <;> omega)) _ | refine Below.drew ?_ | refine below_draws ?_ _ | exact hb | exact Below.refl _ _))⟩
        rw [unhide HT]
        simp
      · have hwr := wrap_small (x := lenOf n pn - (al - left)) (by omega) (by omega)
        go_wp2_with fail
        go_region
        go_wp2
        refine bodyPost_ret (v := .agg #[.int .i64 pn, .int .i64 (lenOf n pn - (al - left)), .int .i64 (-1)]) (by simp [results, Tryz.results44, go_sem, r0, r1, r2, rl]) rfl ⟨?_, (by repeat (first | with_reducible exact Below.refl _ _ | with_reducible exact hb | refine Below.setCell ?_ (by first | omega | (simp <;> omega) | (simp [World.setCell] <;> omega)) _ | refine Below.alloc ?_ (by first | omega | (simp <;> omega) | (simp [World.setCell] <;> omega)) _ | refine Below.drew ?_ | refine below_draws ?_ _ | exact hb | exact Below.refl _ _))⟩
        rw [unhide HT]
        simp



end Go.Proofs.YtbdggfpfpjijoabGreat

