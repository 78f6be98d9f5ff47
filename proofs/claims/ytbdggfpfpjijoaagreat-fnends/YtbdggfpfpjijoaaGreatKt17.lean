import Derived.Test.YtbdggfpfpjijoaaGreatG22
import Derived.Test.YtbdggfpfpjijoaaGreatSpec14
namespace Go.Proofs.YtbdggfpfpjijoaaGreat
open Go.RowKit

def sxF (x : Sx) : List Value := [.int .i64 x.step.piece, .int .i64 x.step.way, .int .i64 x.low, .int .i64 x.high]
theorem sxF_len (x : Sx) : (sxF x).length = 4 := rfl
abbrev SxRow (w : World) (base : Nat) (v : Value) (xs : List Sx) : Prop := Row w base 126 4 sxF v xs
theorem info_stretch : (Tryz.prog.info? 126).map (fun i => (i.zero, i.size, i.bytes)) = some (some (.agg #[.int .i64 0, .int .i64 0, .int .i64 0, .int .i64 0]), 4, 32) := by kernel_rfl

/-- A slice of stretches in memory. -/
def SxsAt (L : Nat) (w : World) (a : Option Addr) (xs : List Sx) : Prop :=
  ∀ i (h : i < xs.length), ∃ b off, a = some ⟨b, off, none⟩ ∧ (L ≤ b ∧ b < w.heap.size) ∧ w.cell? ⟨b, off + i * 4, none⟩ = some (.int .i64 xs[i].step.piece) ∧ w.cell? ⟨b, off + i * 4 + 1, none⟩ = some (.int .i64 xs[i].step.way)
    ∧ w.cell? ⟨b, off + i * 4 + 2, none⟩ = some (.int .i64 xs[i].low) ∧ w.cell? ⟨b, off + i * 4 + 3, none⟩ = some (.int .i64 xs[i].high)
theorem SxsAt.keeps {L : Nat} {w w' : World} {a : Option Addr} {es : List Sx} (h : SxsAt L w a es) (hk : Keeps L w w') : SxsAt L w' a es := by
  intro i hi
  obtain ⟨b, off, ha, hlt, c0, c1, c2, c3⟩ := h i hi
  exact ⟨b, off, ha, ⟨hlt.1, Nat.lt_of_lt_of_le hlt.2 hk.1⟩, by rw [hk.cell hlt]; exact c0, by rw [hk.cell hlt]; exact c1, by rw [hk.cell hlt]; exact c2, by rw [hk.cell hlt]; exact c3⟩
theorem SxsAt.below {L : Nat} {w w' : World} {a : Option Addr} {es : List Sx} (h : SxsAt L w a es) (hb : Below w.heap.size w w') : SxsAt L w' a es := h.keeps (keeps_below L hb)
theorem sxRow_at {w : World} {base : Nat} {v : Value} {xs : List Sx} (h : SxRow w base v xs) : ∃ a cap, v = .slice a xs.length cap ∧ xs.length ≤ cap ∧ SxsAt base w a xs := by
  obtain ⟨a, cap, hv, hc, hx⟩ := h.shape sxF_len
  refine ⟨a, cap, hv, hc, fun i hi => ?_⟩
  obtain ⟨g, ha, hg, hj⟩ := hx i hi
  have e0 := hj 0 (by omega)
  have e1 := hj 1 (by omega)
  have e2 := hj 2 (by omega)
  have e3 := hj 3 (by omega)
  simp only [sxF] at e0 e1 e2 e3
  exact ⟨g, 0, ha, hg, by simpa using e0, by simpa using e1, by simpa using e2, by simpa using e3⟩

/-- What a stretch must keep to, so that nothing wraps. -/
def SxOk (n : Nt) (x : Sx) : Prop := StepOk n x.step ∧ (0 ≤ x.low ∧ x.low ≤ 10000000) ∧ (0 ≤ x.high ∧ x.high ≤ 10000000)

set_option maxRecDepth 100000 in
set_option maxHeartbeats 2000000 in
theorem kpart_any (kv : Value) (n : Nt) (x : Sx) (w : World) {L : Nat} (hk : TrkAt L w kv n) (hG : NetGood n) (hx : SxOk n x) :
    Calls Tryz.prog 156 #[kv, .agg #[.int .i64 x.step.piece, .int .i64 x.step.way, .int .i64 x.low, .int .i64 x.high]] w fun e w' => e = .returned (.agg #[.int .i64 (partOf n x.step x.low x.high).piece, .int .i64 (partOf n x.step x.low x.high).fr, .int .i64 (partOf n x.step x.low x.high).to]) ∧ Below w.heap.size w w' := by
  obtain ⟨a, ca, sh, csh, st, cst, rfl, hp, hsh, hsd⟩ := hk
  obtain ⟨⟨p, y⟩, lo, hi⟩ := x
  obtain ⟨⟨⟨h1, h2⟩, hy⟩, hlo, hhi⟩ := hx
  dsimp only at h1 h2 hy hlo hhi ⊢
  have hlen := hG.len h1 h2
  obtain ⟨pb, poff, rfl, hpb, c1⟩ := hp.len h1 h2
  obtain ⟨pn, rfl⟩ := Int.eq_ofNat_of_zero_le h1
  simp only [Int.toNat_natCast] at c1
  have hpb1 : pb < w.heap.size + 1 := by omega
  have hpb2 : pb < w.heap.size + 1 + 1 := by omega
  have w1 := wrap_small (x := lenOf n pn - hi) (by omega) (by omega)
  have w2 := wrap_small (x := lenOf n pn - lo) (by omega) (by omega)
  rcases hy with rfl | rfl
  · have HP : Hid (partOf n ⟨pn, 1⟩ lo hi = ⟨pn, lo, hi⟩) := by unfold Hid; simp [partOf]
    go_enter Tryz.func156, Tryz.ntmps156
    go_wp2
    exact bodyPost_ret (v := .agg #[.int .i64 pn, .int .i64 lo, .int .i64 hi]) (by simp [results, Tryz.results156, go_sem]) rfl ⟨by rw [unhide HP], bw0⟩
  · have HP : Hid (partOf n ⟨pn, -1⟩ lo hi = ⟨pn, lenOf n pn - hi, lenOf n pn - lo⟩) := by unfold Hid; simp [partOf]
    go_enter Tryz.func156, Tryz.ntmps156
    go_wp2
    exact bodyPost_ret (v := .agg #[.int .i64 pn, .int .i64 (lenOf n pn - hi), .int .i64 (lenOf n pn - lo)]) (by simp [results, Tryz.results156, go_sem]) rfl ⟨by rw [unhide HP], bw0⟩

set_option maxRecDepth 100000 in
set_option maxHeartbeats 4000000 in
theorem kpartsOf_any (kv : Value) (n : Nt) (a : Option Addr) (cap : Nat) (xs : List Sx) (w : World) {L L' : Nat} (hk : TrkAt L w kv n) (hxs : SxsAt L' w a xs) (hG : NetGood n) (hok : ∀ x ∈ xs, SxOk n x) (hl : xs.length ≤ 100000) :
    Calls Tryz.prog 98 #[kv, .slice a xs.length cap] w fun e w' => ∃ u, e = .returned u ∧ PtRow w' w.heap.size u (partsL n xs) ∧ Below w.heap.size w w' := by
  have hkk := hk
  obtain ⟨ka, kca, sh, csh, st, cst, rfl, hp, hsh, hsd⟩ := hk
  obtain ⟨i0, hi, hz0, hz1, hz2⟩ := info_parts info_Part
  have HOK := hide hok
  clear hok
  go_enter Tryz.func98, Tryz.ntmps98
  go_wp2_with fail
  go_loopw [5, 10] (fun u z wr => ∃ k : Nat, k ≤ xs.length ∧ z = .int .i64 k ∧ Hid (PtRow wr (w.heap.size + 1) u (partsL n (xs.take k))) ∧ Boxed wr w.heap.size [.slice ka n.pieces.length kca, .slice sh n.joints.length csh, .slice st n.pieces.length cst] ∧ Below w.heap.size w wr) (fun _ z _ => xs.length - (intOf z).toNat)
  case atStart => exact ⟨0, Nat.zero_le _, rfl, hide (Row.nil _ _ _ _ _), boxed_alloc _ _ _, bw0⟩
  case round =>
    obtain ⟨k, hk', rfl, HROW, hBk, hb⟩ := hrel
    have nk := hBk.1
    have hszr := hb.size
    by_cases hlt : k < xs.length
    · obtain ⟨sb, soff, rfl, hsb, s0, s1, s2, s3⟩ := hxs.below hb k hlt
      have hx := unhide HOK xs[k] (List.getElem_mem hlt)
      have htake : xs.take (k + 1) = xs.take k ++ [xs[k]] := List.take_succ_eq_append_getElem hlt
      generalize hxk : xs[k] = x at *
      obtain ⟨⟨xp, xy⟩, lo, hi'⟩ := x
      have HX := hide hx
      have HT := hide htake
      have hsb2 := hsb.2
      dsimp only at s0 s1 s2 s3
      clear hx htake hxk
      have hpl := partsL_len n (xs.take k)
      rw [List.length_take] at hpl
      by_cases hlow : lo < hi'
      · have k0 := hBk.2.1 0 _ rfl
        have k1 := hBk.2.1 1 _ rfl
        have k2 := hBk.2.1 2 _ rfl
        have hbA : Below wr.heap.size wr (wr.alloc (.cells #[.int .i64 xp, .int .i64 xy, .int .i64 lo, .int .i64 hi'] 126)) := bw0
        go_wp2_with fail
        refine (kpart_any _ n ⟨⟨xp, xy⟩, lo, hi'⟩ _ (hkk.below (below_then hb hbA)) hG (unhide HX)).mono ?_
        rintro e w2 ⟨rfl, hb2⟩
        have hb2' := below_then hbA hb2
        have hrow2 := (unhide HROW).below hb2'
        have hbw2 := below_then hb hb2'
        have hBk2 := hBk.below hb2'
        have hsz2 := hb2'.size
        have HP : Hid (partsL n (xs.take (k + 1)) = partsL n (xs.take k) ++ [partOf n ⟨xp, xy⟩ lo hi']) := by
          unfold Hid
          rw [unhide HT, partsL_snoc, if_pos hlow]
        dsimp only
        obtain ⟨pt, hpt⟩ : ∃ pt, partOf n ⟨xp, xy⟩ lo hi' = pt := ⟨_, rfl⟩
        rw [hpt] at HP ⊢
        obtain ⟨qp, qf, qt⟩ := pt
        clear hpt k0 k1 k2
        dsimp only
        go_wp2_with (at_builtin; refine wpList_append_own _ rfl (.tmp 19) (.tmp 23) 36 rfl (w.heap.size + 1) 43 i0 (.agg #[.int .i64 0, .int .i64 0, .int .i64 0]) 3 24 Tryz.underlying36 hi hz0 hz1 hz2 rfl (by decide) _ _ _ rfl (hrow2.alloc _) ⟨w2.heap.size, 0, none⟩ 1 1 (ptF ⟨qp, qf, qt⟩) rfl rfl ?c1 ?c2 ?c3 ?c4 ?c5 ?_)
        case c1 =>
          intro j u hj
          match j, hj with
          | 0, hj => simp [ptF] at hj; subst hj; simp [Addr.add]
          | 1, hj => simp [ptF] at hj; subst hj; simp [Addr.add]
          | 2, hj => simp [ptF] at hj; subst hj; simp [Addr.add]
        case c2 => intro u hu; simp [ptF] at hu; rcases hu with rfl | rfl | rfl <;> rfl
        case c3 => unfold maxLen; omega
        case c4 => omega
        case c5 => simp; omega
        intro v' w3 hown' hgrow _
        have hrow3 : PtRow w3 (w.heap.size + 1) v' (partsL n (xs.take k) ++ [⟨qp, qf, qt⟩]) := Row.snoc hown'
        have hb3 : Below w.heap.size w w3 := row_below_grown hrow2 hbw2 hgrow (by omega) (by omega)
        have hBk3 := row_boxed_grown hrow2 hgrow (by omega) hBk2
        have HROW3 := hide hrow3
        clear hrow3 hown' hgrow hrow2
        go_wp2
        refine ⟨⟨k + 1, by omega, by go_num, ?_, hBk3, hb3⟩, by simp [intOf]; omega⟩
        rw [unhide HP]
        exact HROW3
      · have HP : Hid (partsL n (xs.take (k + 1)) = partsL n (xs.take k)) := by
          unfold Hid
          rw [unhide HT, partsL_snoc, if_neg hlow, List.append_nil]
        go_wp2
        refine ⟨⟨k + 1, by omega, by go_num, ?_, hBk.alloc _, (by repeat (first | with_reducible exact Below.refl _ _ | with_reducible exact hb | refine bwS ?_ | refine bwA ?_ | refine Below.drew ?_ | refine below_draws ?_ _ | exact hb | exact Below.refl _ _))⟩, by simp [intOf]; omega⟩
        rw [unhide HP]
        exact hide ((unhide HROW).below bw0)
    · have hkl : k = xs.length := by omega
      have HK : Hid (xs.take k = xs) := by unfold Hid; rw [hkl]; simp
      go_wp2
      go_ret
      refine ⟨_, rfl, ?_, hb⟩
      have := unhide HROW
      rw [unhide HK] at this
      exact this.mono (by omega)

end Go.Proofs.YtbdggfpfpjijoaaGreat

