import Derived.Test.YtbdggfpfpjijoaaDr15
import Derived.Test.YtbdggfpfpjijoaaKw9
import Derived.Test.YtbdggfpfpjijoaaG28
import Derived.Test.YtbdggfpfpjijoaaG27
namespace Go.Proofs.Ytbdggfpfpjijoaa
open Go.RowKit

/-! ### Bodies that meet: plain -/

theorem partOf_fits {n : Nt} {s : St} (hs : StepOk n s) {a b : Int} (h0 : 0 ≤ a) (h1 : a ≤ b) (h2 : b ≤ lenOf n s.piece) : PtFits n (partOf n s a b) := by
  unfold partOf
  split
  · exact ⟨hs.1, by dsimp only; omega, by dsimp only; omega, by dsimp only; omega⟩
  · exact ⟨hs.1, by dsimp only; omega, by dsimp only; omega, by dsimp only; omega⟩
theorem bodyFrom_ok {n : Nt} (hG : NetGood n) {long : Int} : ∀ {bk : List St} {hv along : Int} {at_ : St}, BackOk n long hv at_ bk → 0 < long - (hv - along) → (0 ≤ along ∧ along ≤ lenOf n at_.piece) → StepOk n at_ →
    (∀ p ∈ bodyFrom n (long - (hv - along)) along at_ bk, PtFits n p) ∧ bodyFrom n (long - (hv - along)) along at_ bk ≠ [] := by
  intro bk
  induction bk with
  | nil =>
    intro hv along at_ hB hl ha hs
    simp only [BackOk] at hB
    have hm : (if along > long - (hv - along) then long - (hv - along) else along) = long - (hv - along) := by split <;> omega
    simp only [bodyFrom, hm, if_pos hl]
    refine ⟨fun p hp => ?_, by simp⟩
    simp at hp
    subst hp
    exact partOf_fits hs (by omega) (by omega) ha.2
  | cons s r ih =>
    intro hv along at_ hB hl ha hs
    obtain ⟨hss, hlt, _, hB'⟩ := hB
    have hls := hG.len hss.1.1 hss.1.2
    have hm : (if along > long - (hv - along) then long - (hv - along) else along) = along := by split <;> omega
    have hne : ¬ long - (hv - along) - along = 0 := by omega
    obtain ⟨g1, g2⟩ := ih (hv := hv + lenOf n s.piece) (along := lenOf n s.piece) (at_ := s) hB' (by omega) ⟨by omega, Int.le_refl _⟩ hss
    rw [show long - (hv + lenOf n s.piece - lenOf n s.piece) = long - (hv - along) - along by omega] at g1 g2
    simp only [bodyFrom, hm, if_neg hne]
    refine ⟨fun p hp => ?_, fun h => g2 (List.append_eq_nil_iff.1 h).2⟩
    rcases List.mem_append.1 hp with hp | hp
    · split at hp
      · simp at hp
        subst hp
        exact partOf_fits hs (by omega) (by omega) ha.2
      · cases hp
    · exact g1 p hp
theorem body_fits {n : Nt} {t : Tr} (h : TrainRight n t) : PtsFit n (bodyParts n t) ∧ bodyParts n t ≠ [] := by
  have hG := netGood h.1
  have hF := h.2
  have hbe := spot_behind hG hF.1
  have hbl : behind n t.front ≤ lenOf n t.front.piece := by
    have h3 := hF.1.2.2
    unfold behind room
    split <;> omega
  obtain ⟨g1, g2⟩ := bodyFrom_ok hG (long := t.long) (hv := behind n t.front) (along := behind n t.front) (at_ := ⟨t.front.piece, t.front.way⟩) hF.2.2.2 (by have := hF.2.1; omega) ⟨hbe.1, hbl⟩ ⟨hF.1.1, hF.1.2.1⟩
  rw [show t.long - (behind n t.front - behind n t.front) = t.long by omega] at g1 g2
  have hlen := bodyParts_len hG hF
  exact ⟨⟨g1, by omega⟩, g2⟩
theorem touch_symm {x y : Pt} (h : Touch x y) : Touch y x := ⟨h.1.symm, h.2.2, h.2.1⟩
theorem touchL_symm {ps qs : List Pt} (h : TouchL ps qs) : TouchL qs ps := by
  obtain ⟨i, j, hi, hj, ht⟩ := h
  exact ⟨j, i, hj, hi, touch_symm ht⟩
/-- Whether two bodies have a place in common. -/
def met2 (ps qs : List Pt) : Bool := ps.any fun p => qs.any fun q => decide (Touch p q)
theorem met2_iff (ps qs : List Pt) : met2 ps qs = true ↔ TouchL ps qs := by
  unfold met2 TouchL
  rw [List.any_eq_true]
  constructor
  · rintro ⟨p, hp, hq⟩
    rw [List.any_eq_true] at hq
    obtain ⟨q, hq, ht⟩ := hq
    obtain ⟨i, hi, rfl⟩ := List.getElem_of_mem hp
    obtain ⟨j, hj, rfl⟩ := List.getElem_of_mem hq
    exact ⟨i, j, hi, hj, of_decide_eq_true ht⟩
  · rintro ⟨i, j, hi, hj, ht⟩
    refine ⟨ps[i], List.getElem_mem hi, ?_⟩
    rw [List.any_eq_true]
    exact ⟨qs[j], List.getElem_mem hj, decide_eq_true ht⟩
theorem met2_symm (ps qs : List Pt) : met2 ps qs = met2 qs ps := by
  rw [Bool.eq_iff_iff, met2_iff, met2_iff]
  exact ⟨touchL_symm, touchL_symm⟩
theorem hits_met2 (ps qs : List Pt) : hits ps qs = met2 qs ps := by
  rw [Bool.eq_iff_iff, met2_iff]
  unfold hits TouchL
  rw [List.any_eq_true]
  constructor
  · rintro ⟨y, hy, hx⟩
    rw [List.any_eq_true] at hx
    obtain ⟨x, hx, ht⟩ := hx
    obtain ⟨i, hi, rfl⟩ := List.getElem_of_mem hx
    obtain ⟨j, hj, rfl⟩ := List.getElem_of_mem hy
    exact ⟨i, j, hi, hj, of_decide_eq_true ht⟩
  · rintro ⟨i, j, hi, hj, ht⟩
    refine ⟨ps[j], List.getElem_mem hj, ?_⟩
    rw [List.any_eq_true]
    exact ⟨qs[i], List.getElem_mem hi, decide_eq_true ht⟩
theorem meet_self {n : Nt} {t : Tr} (h : TrainRight n t) : MeetP n t t := by
  refine ⟨h, h.2, ?_⟩
  obtain ⟨hf, hne⟩ := body_fits h
  have hl : 0 < (bodyParts n t).length := List.length_pos_iff.2 hne
  have hp := hf.1 _ (List.getElem_mem hl)
  exact ⟨0, 0, hl, hl, rfl, hp.2.2.1, hp.2.2.1⟩
theorem meet_met {n : Nt} {t u : Tr} (ht : TrainRight n t) (hu : TrainRight n u) : MeetP n t u ↔ met2 (bodyParts n u) (bodyParts n t) = true := by
  rw [met2_iff]
  exact ⟨fun h => touchL_symm h.2.2, fun h => ⟨ht, hu.2, touchL_symm h⟩⟩
theorem meet_met' {n : Nt} {t u : Tr} (ht : TrainRight n t) (hu : TrainRight n u) : MeetP n u t ↔ met2 (bodyParts n u) (bodyParts n t) = true := by
  rw [met2_iff]
  exact ⟨fun h => h.2.2, fun h => ⟨hu, ht.2, h⟩⟩
/-- Which of the first i are met. -/
def metL (p : Nat → Bool) (i : Nat) : List Int := ((List.range i).filter p).map fun (i : Nat) => (i : Int)
theorem metL_succ (p : Nat → Bool) (i : Nat) : metL p (i + 1) = metL p i ++ (if p i then [(i : Int)] else []) := by
  unfold metL
  rw [List.range_succ, List.filter_append, List.map_append]
  congr 1
  by_cases h : p i = true
  · simp [h]
  · simp [h]
theorem metL_pre (p : Nat → Bool) (i : Nat) : ∀ m, i ≤ m → ∃ r, metL p m = metL p i ++ r := by
  intro m
  induction m with
  | zero => intro h; exact ⟨[], by rw [show i = 0 by omega]; simp⟩
  | succ m ih =>
    intro h
    by_cases he : i = m + 1
    · exact ⟨[], by rw [he]; simp⟩
    · obtain ⟨r, hr⟩ := ih (by omega)
      exact ⟨r ++ (if p m then [(m : Int)] else []), by rw [metL_succ, hr, List.append_assoc]⟩
theorem metL_get (p : Nat → Bool) {i m : Nat} (h : i < m) (hp : p i = true) : ∃ hk : (metL p i).length < (metL p m).length, (metL p m)[(metL p i).length] = (i : Int) := by
  obtain ⟨r, hr⟩ := metL_pre p (i + 1) m h
  rw [metL_succ, if_pos hp] at hr
  refine ⟨by rw [hr]; simp, ?_⟩
  simp only [hr]
  rw [List.getElem_append_left (by simp)]
  simp
theorem metL_len (p : Nat → Bool) (i : Nat) : (metL p i).length ≤ i := by
  induction i with
  | zero => simp [metL]
  | succ i ih =>
    rw [metL_succ, List.length_append]
    split <;> simp <;> omega
theorem taken_met {n : Nt} {ts : List Tr} {t : Tr} (h : TrainRight n t) (hts : ∀ u ∈ ts, TrainRight n u) (hl : ts.length ≤ 20) {zs : List Int} (hz : TakenIs n ts (bodyParts n t) zs) : zs = metL (fun i => met2 (bodyParts n (ts.getD i noTr')) (bodyParts n t)) ts.length := by
  have hg : TakenGood n ts (bodyParts n t) := ⟨⟨h.1, hl, fun u hu => (hts u hu).2⟩, (body_fits h).1⟩
  rcases hz with ⟨_, rfl⟩ | ⟨h1, _⟩
  · unfold takenL metL
    simp only [hits_met2]
  · exact absurd hg h1
theorem met2_take (ps qs : List Pt) (a : Nat) (h : a < ps.length) : met2 (ps.take (a + 1)) qs = (met2 (ps.take a) qs || qs.any fun q => decide (Touch ps[a] q)) := by
  unfold met2
  rw [← List.take_append_getElem h, List.any_append]
  simp
theorem any_take (p : Pt) (qs : List Pt) (b : Nat) (h : b < qs.length) : ((qs.take (b + 1)).any fun q => decide (Touch p q)) = (((qs.take b).any fun q => decide (Touch p q)) || decide (Touch p qs[b])) := by
  rw [← List.take_append_getElem h, List.any_append]
  simp
end Go.Proofs.Ytbdggfpfpjijoaa

set_option linter.unusedSimpArgs false
namespace Go.Proofs.Ytbdggfpfpjijoaa
open Go.RowKit

theorem BytesAt.to {w w' : World} {a : Option Addr} {bs : List Int} (h : BytesAt w.heap.size w a bs) (hb : Below w.heap.size w w') : BytesAt w'.heap.size w' a bs := fun i hi => by
  obtain ⟨b, off, e, hl, hc, hr⟩ := h i hi
  exact ⟨b, off, e, ⟨Nat.lt_of_lt_of_le hl.2 hb.size, Nat.lt_of_lt_of_le hl.2 hb.size⟩, (hb.cell hl.2).trans hc, hr⟩
theorem stRow_sts0 {w : World} {base : Nat} {xs : List St} {a : Option Addr} {cap : Nat} (h : StRow w base (.slice a xs.length cap) xs) : StsAt 0 w a xs ∧ xs.length ≤ cap := by
  obtain ⟨a', cap', e, hcap, hc⟩ := Row.shape (f := stF) (sz := 2) (fun _ => rfl) h
  simp at e
  obtain ⟨rfl, rfl⟩ := e
  refine ⟨fun i hi => ?_, hcap⟩
  obtain ⟨g, rfl, hl, hcell⟩ := hc i hi
  exact ⟨g, 0, rfl, ⟨Nat.zero_le _, hl.2⟩, by simpa [stF] using hcell 0 (by omega), by simpa [stF] using hcell 1 (by omega)⟩
theorem retB_val {p : Prop} {e : Ending} (h : RetB p e) {b : Bool} (hb : p ↔ b = true) : e = .returned (.bool b) := by
  rcases h with ⟨rfl, hp⟩ | ⟨rfl, hp⟩
  · rw [hb.1 hp]
  · cases b with
    | true => exact absurd (hb.2 rfl) hp
    | false => rfl

set_option maxRecDepth 100000 in
set_option maxHeartbeats 8000000 in
theorem fnMeet_any (bs ms : List Int) (ba ma : Option Addr) (bcap mcap : Nat) (w : World) (hba : BytesAt w.heap.size w ba bs) (hbs : BytesIn bs) (hma : BytesAt w.heap.size w ma ms) (hms : BytesIn ms) :
    Calls Try.prog 3 #[.slice ba bs.length bcap, .slice ma ms.length mcap] w fun e w' => e = .returned (.bool true) ∧ Below w.heap.size w w' := by
  have HBA := hide hba
  have HMA := hide hma
  clear hba hma
  obtain ⟨i1, hj1, hy0, hy1, hy2⟩ := info_parts info_Int
  go_enter Try.func3, Try.ntmps3
  by_cases h1 : 1048576 < bs.length
  · have h1' : (1048576 : Int) < (bs.length : Int) := by omega
    go_wp2_with fail
    go_ret
    exact ⟨rfl, Below.refl _ _⟩
  · have h1' : ¬ (1048576 : Int) < (bs.length : Int) := by omega
    by_cases h2 : 1048576 < ms.length
    · have h2' : (1048576 : Int) < (ms.length : Int) := by omega
      go_wp2_with fail
      go_ret
      exact ⟨rfl, Below.refl _ _⟩
    · have h2' : ¬ (1048576 : Int) < (ms.length : Int) := by omega
      go_wp2_with fail
      refine (drawn_any bs ba bcap _ (unhide HBA) hbs).mono ?_
      rintro e w1 ⟨v, n, zq, zs, zc, t, ta, tc, ok, rfl, hdi, hok, hN1, hZ1, hS1, hB1⟩
      dsimp only [trV]
      obtain ⟨a1, a2, k1, k2, rfl, hp1, hj1'⟩ := hN1
      have hsm := hdi.small
      have hbk := hdi.back
      have HN1 : Hid (NetAt w.heap.size w1 (.agg #[.slice a1 n.pieces.length k1, .slice a2 n.joints.length k2]) n) := ⟨a1, a2, k1, k2, rfl, hp1, hj1'⟩
      have HZ1 := hide (iRow_ints hZ1)
      have HS1 := hide hS1
      have HB1 := hide hB1
      have HSM := hide hsm
      clear hp1 hj1' hdi hZ1 hS1 hB1 hsm
      cases ok with
      | false =>
        clear hok
        go_wp2_with fail
        go_ret
        exact ⟨rfl, by have := (unhide HB1).size; exact (unhide HB1).trans (by repeat (first | with_reducible exact Below.refl _ _ | refine Below.setCell ?_ (by first | omega | (simp <;> omega) | (simp [World.setCell] <;> omega)) _ | refine Below.alloc ?_ (by first | omega | (simp <;> omega) | (simp [World.setCell] <;> omega)) _ | refine Below.drew ?_ | refine below_draws ?_ _ | exact Below.refl _ _))⟩
      | true =>
        obtain ⟨hTR, hSR⟩ := hok.1 rfl
        have HTR := hide hTR
        clear hok hSR hTR
        go_wp2_with fail
        obtain ⟨w2, hw2⟩ : ∃ w2, (w1.alloc (.cells #[.slice a1 n.pieces.length k1, .slice a2 n.joints.length k2] 26)).alloc (.cells #[.int .i64 t.front.piece, .int .i64 t.front.at_, .int .i64 t.front.way, .int .i64 t.long, .slice ta t.back.length tc] 32) = w2 := ⟨_, rfl⟩
        have hB12 : Below w1.heap.size w1 w2 := by rw [← hw2]; exact (by repeat (first | with_reducible exact Below.refl _ _ | refine Below.setCell ?_ (by first | omega | (simp <;> omega) | (simp [World.setCell] <;> omega)) _ | refine Below.alloc ?_ (by first | omega | (simp <;> omega) | (simp [World.setCell] <;> omega)) _ | refine Below.drew ?_ | refine below_draws ?_ _ | exact Below.refl _ _))
        have hN5 : Boxed w2 w1.heap.size [.slice a1 n.pieces.length k1, .slice a2 n.joints.length k2] := by rw [← hw2]; exact (boxed_alloc w1 #[.slice a1 n.pieces.length k1, .slice a2 n.joints.length k2] 26).alloc _
        have hT7 : Boxed w2 (w1.heap.size + 1) [.int .i64 t.front.piece, .int .i64 t.front.at_, .int .i64 t.front.way, .int .i64 t.long, .slice ta t.back.length tc] := by rw [← hw2]; exact boxedN _ _ _ (by simp)
        rw [hw2]
        obtain ⟨N5, hN5e⟩ : ∃ N5, w1.heap.size = N5 := ⟨_, rfl⟩
        obtain ⟨T7, hT7e⟩ : ∃ T7, w1.heap.size + 1 = T7 := ⟨_, rfl⟩
        rw [hN5e] at hN5
        rw [hT7e] at hT7
        rw [hT7e, hN5e]
        have HN2 := hide ((unhide HN1).below hB12)
        have HZ2 := hide (IntsAt.below (unhide HZ1) hB12)
        have HS2 := hide ((unhide HS1).below hB12)
        have HB2 := hide ((unhide HB1).trans (hB12.mono (unhide HB1).size))
        have HMA2 := hide ((unhide HMA).to (unhide HB2))
        have HBX := hide (And.intro hN5 hT7)
        have hs2 := (unhide HB2).size
        clear hw2 hB12 hN5e hT7e HN1 HZ1 HS1 HB1 hN5 hT7
        obtain ⟨hst0, hcap0⟩ := stRow_sts0 (unhide HS2)
        have hle' : ∀ i (h : i < n.joints.length), n.joints[i].name.size ≤ maxLen := fun i hi => ((unhide HSM).hle i hi).2
        have HLE' := hide hle'
        refine (implMeet_any _ n t t ta ta tc tc _ (unhide HN2) hst0 hst0 hcap0 hcap0 (by omega) (by omega) (by have := (unhide HSM).pcs; omega) (by have := (unhide HSM).jts; omega) hle' (unhide HSM).hnm).mono ?_
        rintro e w3 ⟨hr3, hb3⟩
        have he3 := retB_val hr3 (b := true) ⟨fun _ => rfl, fun _ => meet_self (unhide HTR)⟩
        subst he3
        have HN3 := hide ((unhide HN2).below hb3)
        have HZ3 := hide (IntsAt.below (unhide HZ2) hb3)
        have HS3 := hide ((unhide HS2).below hb3)
        have HB3 := hide ((unhide HB2).trans (hb3.mono (unhide HB2).size))
        have hBX3 := And.intro ((unhide HBX).1.below hb3) ((unhide HBX).2.below hb3)
        have HMA3 := hide ((unhide HMA2).to hb3)
        have n0 := hBX3.1.2.1 0 _ rfl
        have n1 := hBX3.1.2.1 1 _ rfl
        have nl := hBX3.1.1
        have HBX3 := hide hBX3
        clear hr3 hb3 hBX3 hst0 hle' HN2 HZ2 HS2 HB2 HBX HMA2
        go_wp2_with fail
        clear n0 n1 nl
        refine (more_any ms _ n zq zs zc ma mcap _ (unhide HN3) (unhide HZ3) (unhide HMA3) hms (unhide HSM)).mono ?_
        rintro e w4 ⟨lv, ts, pv, ps, rfl, hL4, hts, htr, hP4, hpl, hb4⟩
        obtain ⟨lq, lk, hlv, hT4⟩ := tnRow_at hL4
        subst hlv
        have HT4 := hide hT4
        have HTS := hide htr
        have HN4 := hide ((unhide HN3).below hb4)
        have HS4 := hide ((unhide HS3).below hb4)
        have HB4 := hide ((unhide HB3).trans (hb4.mono (unhide HB3).size))
        have hBX4 := And.intro ((unhide HBX3).1.below hb4) ((unhide HBX3).2.below hb4)
        have HBX4 := hide hBX4
        have n0 := hBX4.1.2.1 0 _ rfl
        have n1 := hBX4.1.2.1 1 _ rfl
        have t0 := hBX4.2.2.1 0 _ rfl
        have t1 := hBX4.2.2.1 1 _ rfl
        have t2 := hBX4.2.2.1 2 _ rfl
        have t3 := hBX4.2.2.1 3 _ rfl
        have t4 := hBX4.2.2.1 4 _ rfl
        have nl := hBX4.1.1
        have tl := hBX4.2.1
        clear hb4 hL4 hT4 htr hP4 hBX4 HN3 HZ3 HS3 HB3 HBX3 HMA3
        go_upto_region 9 with fail
        refine wp_region_held_drew (S := fun w' => w'.cell? ⟨N5, 0, none⟩ = some (.slice a1 n.pieces.length k1) ∧ w'.cell? ⟨N5, 1, none⟩ = some (.slice a2 n.joints.length k2) ∧ w'.cell? ⟨T7, 0, none⟩ = some (.int .i64 t.front.piece) ∧ w'.cell? ⟨T7, 1, none⟩ = some (.int .i64 t.front.at_) ∧ w'.cell? ⟨T7, 2, none⟩ = some (.int .i64 t.front.way) ∧ w'.cell? ⟨T7, 3, none⟩ = some (.int .i64 t.long) ∧ w'.cell? ⟨T7, 4, none⟩ = some (.slice ta t.back.length tc)) (by kernel_rfl) ?_ (fun hHeld => ?_)
        · exact ⟨by simpa using n0, by simpa using n1, by simpa using t0, by simpa using t1, by simpa using t2, by simpa using t3, by simpa using t4⟩
        refine wpAnyH_take (i := 0) (v := ?va1) rfl (by kernel_rfl) (by kernel_rfl) (by kernel_rfl) (fun _ _ _ h => h) (Or.inl ⟨by rfl, ?ya1⟩) (by assumption) ?ra1
        case ya1 => (intro w0 hSw; (try dsimp only at hSw); go_simp; (try with_reducible rfl))
        (try simp only [Act.put, List.setIfInBounds_toArray, List.set_cons_zero, List.set_cons_succ])
        refine wpAnyH_take (i := 1) (v := ?va2) rfl (by kernel_rfl) (by kernel_rfl) (by kernel_rfl) (fun _ _ _ h => h) (Or.inl ⟨by rfl, ?ya2⟩) (by assumption) ?ra2
        case ya2 => (intro w0 hSw; (try dsimp only at hSw); go_simp; (try with_reducible rfl))
        (try simp only [Act.put, List.setIfInBounds_toArray, List.set_cons_zero, List.set_cons_succ])
        refine wpAnyH_take (i := 2) (v := ?va3) rfl (by kernel_rfl) (by kernel_rfl) (by kernel_rfl) (fun _ _ _ h => h) (Or.inl ⟨by rfl, ?ya3⟩) (by assumption) ?ra3
        case ya3 => (intro w0 hSw; (try dsimp only at hSw); go_simp; (try with_reducible rfl))
        (try simp only [Act.put, List.setIfInBounds_toArray, List.set_cons_zero, List.set_cons_succ])
        refine wpAnyH_take (i := 3) (v := ?va4) rfl (by kernel_rfl) (by kernel_rfl) (by kernel_rfl) (fun _ _ _ h => h) (Or.inl ⟨by rfl, ?ya4⟩) (by assumption) ?ra4
        case ya4 => (intro w0 hSw; (try dsimp only at hSw); go_simp; (try with_reducible rfl))
        (try simp only [Act.put, List.setIfInBounds_toArray, List.set_cons_zero, List.set_cons_succ])
        refine wpAnyH_ready (rs := [4]) (by kernel_rfl) (by simp) ?_
        refine (AllReadyH.cons rfl (fun K hK => ?_) AllReadyH.nil)
        go_simp
        refine (specBody_any _ _ n t _ ((unhide HN4).below (by repeat (first | with_reducible exact Below.refl _ _ | refine Below.setCell ?_ (by first | omega | (simp <;> omega) | (simp [World.setCell] <;> omega)) _ | refine Below.alloc ?_ (by first | omega | (simp <;> omega) | (simp [World.setCell] <;> omega)) _ | refine Below.drew ?_ | refine below_draws ?_ _ | exact Below.refl _ _))) ((stRow_tr (unhide HS4)).below (by repeat (first | with_reducible exact Below.refl _ _ | refine Below.setCell ?_ (by first | omega | (simp <;> omega) | (simp [World.setCell] <;> omega)) _ | refine Below.alloc ?_ (by first | omega | (simp <;> omega) | (simp [World.setCell] <;> omega)) _ | refine Below.drew ?_ | refine below_draws ?_ _ | exact Below.refl _ _))) (by have := (unhide HSM).pcs; omega) (by have := (unhide HSM).jts; omega) (unhide HSM).hle (unhide HSM).hnm (by omega)).mono ?_
        rintro e w5 ⟨⟨pq, pk, qs, hbd, rfl, hrow5⟩, hb5⟩
        dsimp only
        have hqe : qs = bodyParts n t := by
          rcases hbd with ⟨_, h⟩ | ⟨h, _⟩
          · exact h
          · exact absurd (unhide HTR) h
        have hB5 : Below w4.heap.size w4 w5 := below_then (by repeat (first | with_reducible exact Below.refl _ _ | refine Below.setCell ?_ (by first | omega | (simp <;> omega) | (simp [World.setCell] <;> omega)) _ | refine Below.alloc ?_ (by first | omega | (simp <;> omega) | (simp [World.setCell] <;> omega)) _ | refine Below.drew ?_ | refine below_draws ?_ _ | exact Below.refl _ _)) hb5
        have hX5 := (unhide HBX4).1.below hB5
        have hY5 := (unhide HBX4).2.below hB5
        have nl5 := hX5.1
        have tl5 := hY5.1
        obtain ⟨pq', pk', hpe, _, hpt⟩ := ptRow_at hrow5
        simp only [Value.slice.injEq, true_and] at hpe
        obtain ⟨rfl, rfl⟩ := hpe
        have HPT := hide hpt
        have HB5 := hide hB5
        have hql : qs.length ≤ 201 := by rw [hqe]; exact bodyParts_len (netGood (unhide HTR).1) (unhide HTR).2
        have HQE := hide hqe
        have hH5 : (fun w' => w'.cell? ⟨N5, 0, none⟩ = some (.slice a1 n.pieces.length k1) ∧ w'.cell? ⟨N5, 1, none⟩ = some (.slice a2 n.joints.length k2) ∧ w'.cell? ⟨T7, 0, none⟩ = some (.int .i64 t.front.piece) ∧ w'.cell? ⟨T7, 1, none⟩ = some (.int .i64 t.front.at_) ∧ w'.cell? ⟨T7, 2, none⟩ = some (.int .i64 t.front.way) ∧ w'.cell? ⟨T7, 3, none⟩ = some (.int .i64 t.long) ∧ w'.cell? ⟨T7, 4, none⟩ = some (.slice ta t.back.length tc)) w5 := ⟨hX5.2.1 0 _ rfl, hX5.2.1 1 _ rfl, hY5.2.1 0 _ rfl, hY5.2.1 1 _ rfl, hY5.2.1 2 _ rfl, hY5.2.1 3 _ rfl, hY5.2.1 4 _ rfl⟩
        clear hbd hqe hrow5 hb5 hB5 hX5 hY5 hpt
        refine hK.out _ _ hH5 (fun hHeld => ?_)
        clear hK K
        (try simp only [Act.put, List.setIfInBounds_toArray, List.set_cons_zero, List.set_cons_succ])
        refine wpAnyH_ready (rs := [5]) (by kernel_rfl) (by simp) ?_
        refine (AllReadyH.cons rfl (fun K hK => ?_) AllReadyH.nil)
        go_simp
        refine (implTaken_any _ n lq ts lk pq qs pk _ ((unhide HN4).below (unhide HB5)) ((unhide HT4).below (unhide HB5)) (unhide HPT) (by omega) (fun u hu => by have := (unhide HTS u hu).2.2.2.1; omega) (by omega) (by have := (unhide HSM).pcs; omega) (by have := (unhide HSM).jts; omega) (unhide HLE') (unhide HSM).hnm).mono ?_
        rintro e w6 ⟨⟨kq, kk, ks, hks, rfl, hrow6⟩, hb6⟩
        dsimp only
        have hke : ks = metL (fun i => met2 (bodyParts n (ts.getD i noTr')) (bodyParts n t)) ts.length := taken_met (unhide HTR) (unhide HTS) (by omega) (by rw [unhide HQE] at hks; exact hks)
        have hB6 : Below w4.heap.size w4 w6 := below_then (unhide HB5) hb6
        have hX6 := (unhide HBX4).1.below hB6
        have hY6 := (unhide HBX4).2.below hB6
        have nl6 := hX6.1
        have tl6 := hY6.1
        have HK6 := hide hrow6
        have HKE := hide hke
        have HB6 := hide hB6
        have hH6 : (fun w' => w'.cell? ⟨N5, 0, none⟩ = some (.slice a1 n.pieces.length k1) ∧ w'.cell? ⟨N5, 1, none⟩ = some (.slice a2 n.joints.length k2) ∧ w'.cell? ⟨T7, 0, none⟩ = some (.int .i64 t.front.piece) ∧ w'.cell? ⟨T7, 1, none⟩ = some (.int .i64 t.front.at_) ∧ w'.cell? ⟨T7, 2, none⟩ = some (.int .i64 t.front.way) ∧ w'.cell? ⟨T7, 3, none⟩ = some (.int .i64 t.long) ∧ w'.cell? ⟨T7, 4, none⟩ = some (.slice ta t.back.length tc)) w6 := ⟨hX6.2.1 0 _ rfl, hX6.2.1 1 _ rfl, hY6.2.1 0 _ rfl, hY6.2.1 1 _ rfl, hY6.2.1 2 _ rfl, hY6.2.1 3 _ rfl, hY6.2.1 4 _ rfl⟩
        clear hks hke hrow6 hb6 hB6 hX6 hY6
        refine hK.out _ _ hH6 (fun hHeld => ?_)
        clear hK K
        (try simp only [Act.put, List.setIfInBounds_toArray, List.set_cons_zero, List.set_cons_succ])
        refine wpAnyH_take (i := 6) (v := ?va5) rfl (by kernel_rfl) (by kernel_rfl) (by kernel_rfl) (fun _ _ _ h => h) (Or.inl ⟨by rfl, ?ya5⟩) (by assumption) ?ra5
        case ya5 => (intro w0 hSw; (try dsimp only at hSw); go_simp; (try with_reducible rfl))
        (try simp only [Act.put, List.setIfInBounds_toArray, List.set_cons_zero, List.set_cons_succ])
        refine wpAnyH_done (by kernel_rfl) ?_ _


        clear hHeld hH5 hH6 n0 n1 t0 t1 t2 t3 t4 nl tl nl5 tl5 nl6 tl6
        have HN6 := hide ((unhide HN4).below (unhide HB6))
        have HS6 := hide ((unhide HS4).below (unhide HB6))
        have HT6 := hide ((unhide HT4).below (unhide HB6))
        have HBX6 := hide (And.intro ((unhide HBX4).1.below (unhide HB6)) ((unhide HBX4).2.below (unhide HB6)))
        have HBW := hide ((unhide HB4).trans ((unhide HB6).mono (unhide HB4).size))
        obtain ⟨kq', kk', hke', hKI⟩ := ntRow_at (unhide HK6)
        simp only [Value.slice.injEq, true_and] at hke'
        obtain ⟨rfl, rfl⟩ := hke'
        have HKI := hide hKI
        obtain ⟨P, hP⟩ : ∃ P : Nat → Bool, P = fun i => met2 (bodyParts n (ts.getD i noTr')) (bodyParts n t) := ⟨_, rfl⟩
        have HKE2 : Hid (ks = metL P ts.length) := by rw [unhide HKE, hP]; rfl
        obtain ⟨qt, hqt⟩ : ∃ qt, bodyParts n t = qt := ⟨_, rfl⟩
        have HQT := hide hqt
        have HPD : Hid (∀ i (h : i < ts.length), P i = met2 (bodyParts n ts[i]) qt) := fun i h => by
          rw [hP, ← hqt]
          simp [List.getD_eq_getElem?_getD, h]
        have hqtl : qt.length ≤ 201 := by rw [← hqt]; exact bodyParts_len (netGood (unhide HTR).1) (unhide HTR).2
        obtain ⟨m, hm⟩ : ∃ m, ts.length = m := ⟨_, rfl⟩
        have hm3 : m ≤ 3 := by omega
        have hkl : ks.length ≤ m := by rw [unhide HKE2, hm]; exact metL_len P m
        have HM := hide hm
        rw [hm] at HKE2 ⊢
        clear hKI HK6 HKE HB5 HB6 HPT HQE hP hqt hm hts HN4 HS4 HT4 HBX4 HB4
        clear hql
        go_wp2_with fail
        go_loopw [12, 57] (fun y z wr => ∃ i : Nat, z = .int .i64 i ∧ i ≤ m ∧ y = .int .i64 ((metL P i).length : Nat) ∧ Below w6.heap.size w6 wr) (fun _ z _ => m - (intOf z).toNat)
        case atStart => exact ⟨0, rfl, Nat.zero_le _, rfl, Below.refl _ _⟩
        case round =>
          obtain ⟨i, rfl, hi, rfl, hbr⟩ := hrel
          obtain ⟨k, hk⟩ : ∃ k, (metL P i).length = k := ⟨_, rfl⟩
          have hki : k ≤ i := by rw [← hk]; exact metL_len P i
          rw [hk]
          by_cases hlt : i < m
          · have hlt' : (i : Int) < (m : Int) := by omega
            have hlt2 : i < ts.length := by rw [unhide HM]; exact hlt
            obtain ⟨lb, loff, ua, uc, hae, hlb, q0, q1, q2, q3, q4, hsu, hcu⟩ := (unhide HT6) i hlt2
            have hPi := unhide HPD i hlt2
            have hur := unhide HTS _ (List.getElem_mem hlt2)
            obtain ⟨u, hu⟩ : ∃ u, ts[i] = u := ⟨_, rfl⟩
            rw [hu] at q0 q1 q2 q3 q4 hsu hcu hPi hur
            have hul : u.back.length ≤ 200 := hur.2.2.2.1
            have p0 := (hbr.cell hlb.2).trans q0
            have p1 := (hbr.cell hlb.2).trans q1
            have p2 := (hbr.cell hlb.2).trans q2
            have p3 := (hbr.cell hlb.2).trans q3
            have p4 := (hbr.cell hlb.2).trans q4
            have hlw : lb < wr.heap.size := Nat.lt_of_lt_of_le hlb.2 hbr.size
            subst hae
            have HPI := hide hPi
            have HUR := hide hur
            have HSU := hide hsu
            have hBXr := And.intro ((unhide HBX6).1.below hbr) ((unhide HBX6).2.below hbr)
            have n0 := hBXr.1.2.1 0 _ rfl
            have n1 := hBXr.1.2.1 1 _ rfl
            have nl := hBXr.1.1
            have HNr := hide ((unhide HN6).below hbr)
            have HKK := hide hk
            clear q0 q1 q2 q3 q4 hu hPi hur hsu hBXr hk
            have hwi : IntKind.i64.wrap ((i : Int) + 1) = ((i + 1 : Nat) : Int) := (wrap_small (by omega) (by omega)).trans (by omega)
            have hwk : IntKind.i64.wrap ((k : Int) + 1) = ((k + 1 : Nat) : Int) := (wrap_small (by omega) (by omega)).trans (by omega)
            go_wp2_with fail
            have hBu : Below wr.heap.size wr (wr.alloc (.cells #[.int .i64 u.front.piece, .int .i64 u.front.at_, .int .i64 u.front.way, .int .i64 u.long, .slice ua u.back.length uc] 32)) := (by repeat (first | with_reducible exact Below.refl _ _ | refine Below.setCell ?_ (by first | omega | (simp <;> omega) | (simp [World.setCell] <;> omega)) _ | refine Below.alloc ?_ (by first | omega | (simp <;> omega) | (simp [World.setCell] <;> omega)) _ | refine Below.drew ?_ | refine below_draws ?_ _ | exact Below.refl _ _))
            have hTu : TrAt 0 (wr.alloc (.cells #[.int .i64 u.front.piece, .int .i64 u.front.at_, .int .i64 u.front.way, .int .i64 u.long, .slice ua u.back.length uc] 32)) (.agg #[.int .i64 u.front.piece, .int .i64 u.front.at_, .int .i64 u.front.way, .int .i64 u.long, .slice ua u.back.length uc]) u := ⟨ua, uc, rfl, (((unhide HSU).below hbr).below hBu).mono (Nat.zero_le _)⟩
            refine (specBody_any _ _ n u _ ((unhide HNr).below hBu) hTu (by have := (unhide HSM).pcs; omega) (by have := (unhide HSM).jts; omega) (unhide HSM).hle (unhide HSM).hnm (by omega)).mono ?_
            rintro e w7 ⟨⟨uq, uk, us, hbd, rfl, hrow7⟩, hb7⟩
            have hue : us = bodyParts n u := by
              rcases hbd with ⟨_, h⟩ | ⟨h, _⟩
              · exact h
              · exact absurd (unhide HUR) h
            obtain ⟨uq', uk', hpe, _, hpt⟩ := ptRow_at hrow7
            simp only [Value.slice.injEq, true_and] at hpe
            obtain ⟨rfl, rfl⟩ := hpe
            have hB67 : Below w6.heap.size w6 w7 := below_then hbr (below_then hBu hb7)
            have hBU : Boxed w7 wr.heap.size [.int .i64 u.front.piece, .int .i64 u.front.at_, .int .i64 u.front.way, .int .i64 u.long, .slice ua u.back.length uc] := (boxed_alloc _ _ _).below hb7
            have hul2 : us.length ≤ 201 := by rw [hue]; exact bodyParts_len (netGood (unhide HUR).1) (unhide HUR).2
            obtain ⟨U, hU⟩ : ∃ U, wr.heap.size = U := ⟨_, rfl⟩
            rw [hU] at hBU ⊢
            have HU7 := hide hpt
            have HUE := hide hue
            have HBU := hide hBU
            have HB67 := hide hB67
            clear hbd hue hrow7 hb7 hpt hB67 hBU hU hBu hTu p0 p1 p2 p3 p4 n0 n1 nl HNr hlw hbr
            go_wp2_with fail
            go_loopw [15, 66] (fun y z wx => ∃ a : Nat, z = .int .i64 a ∧ a ≤ us.length ∧ y = .bool (met2 (us.take a) qt) ∧ Below w7.heap.size w7 wx) (fun _ z _ => us.length - (intOf z).toNat)
            case atStart => exact ⟨0, rfl, Nat.zero_le _, by simp [met2], Below.refl _ _⟩
            case round =>
              obtain ⟨a, rfl, ha, rfl, hbx⟩ := hrel
              obtain ⟨M, hM⟩ : ∃ M, met2 (us.take a) qt = M := ⟨_, rfl⟩
              rw [hM]
              by_cases hal : a < us.length
              · have hal' : (a : Int) < (us.length : Int) := by omega
                have hM' : met2 (us.take (a + 1)) qt = (M || qt.any fun q => decide (Touch us[a] q)) := by rw [met2_take us qt a hal, hM]
                obtain ⟨ub, uoff, hae, hub, g0, g1, g2⟩ := (unhide HU7) a hal
                obtain ⟨⟨pp, pf, pt⟩, hp⟩ : ∃ p, us[a] = p := ⟨_, rfl⟩
                rw [hp] at g0 g1 g2 hM'
                dsimp only at g0 g1 g2
                have e0 := (hbx.cell hub.2).trans g0
                have e1 := (hbx.cell hub.2).trans g1
                have e2 := (hbx.cell hub.2).trans g2
                have huw : ub < wr.heap.size := Nat.lt_of_lt_of_le hub.2 hbx.size
                subst hae
                have hB6x := below_then (unhide HB67) hbx
                have hBXx := And.intro ((unhide HBX6).1.below hB6x) ((unhide HBX6).2.below hB6x)
                have n0 := hBXx.1.2.1 0 _ rfl
                have n1 := hBXx.1.2.1 1 _ rfl
                have nl := hBXx.1.1
                have t0 := hBXx.2.2.1 0 _ rfl
                have t1 := hBXx.2.2.1 1 _ rfl
                have t2 := hBXx.2.2.1 2 _ rfl
                have t3 := hBXx.2.2.1 3 _ rfl
                have t4 := hBXx.2.2.1 4 _ rfl
                have tl := hBXx.2.1
                have HM1 := hide hM'
                have HM0 := hide hM
                have HB6X := hide hB6x
                clear g0 g1 g2 hp hM hM' hBXx hB6x
                have hwa : IntKind.i64.wrap ((a : Int) + 1) = ((a + 1 : Nat) : Int) := (wrap_small (by omega) (by omega)).trans (by omega)
                go_wp2_with fail
                have hBp : Below wr.heap.size wr (wr.alloc (.cells #[.int .i64 pp, .int .i64 pf, .int .i64 pt] 44)) := (by repeat (first | with_reducible exact Below.refl _ _ | refine Below.setCell ?_ (by first | omega | (simp <;> omega) | (simp [World.setCell] <;> omega)) _ | refine Below.alloc ?_ (by first | omega | (simp <;> omega) | (simp [World.setCell] <;> omega)) _ | refine Below.drew ?_ | refine below_draws ?_ _ | exact Below.refl _ _))
                refine (specBody_any _ _ n t _ (((unhide HN6).below (unhide HB6X)).below hBp) (((stRow_tr (unhide HS6)).below (unhide HB6X)).below hBp) (by have := (unhide HSM).pcs; omega) (by have := (unhide HSM).jts; omega) (unhide HSM).hle (unhide HSM).hnm (by omega)).mono ?_
                rintro e w8 ⟨⟨tq, tk, qs2, hbd, rfl, hrow8⟩, hb8⟩
                have hqe : qs2 = qt := by
                  rcases hbd with ⟨_, h⟩ | ⟨h, _⟩
                  · rw [h]; exact unhide HQT
                  · exact absurd (unhide HTR) h
                subst hqe
                obtain ⟨tq', tk', hpe, _, hpt⟩ := ptRow_at hrow8
                simp only [Value.slice.injEq, true_and] at hpe
                obtain ⟨rfl, rfl⟩ := hpe
                have hBP : Boxed w8 wr.heap.size [.int .i64 pp, .int .i64 pf, .int .i64 pt] := (boxed_alloc _ _ _).below hb8
                obtain ⟨P17, hP17⟩ : ∃ P17, wr.heap.size = P17 := ⟨_, rfl⟩
                rw [hP17] at hBP ⊢
                have HBP := hide hBP
                have HQ8 := hide hpt
                have HB78 := hide (below_then hbx (below_then hBp hb8))
                clear hbd hrow8 hb8 hpt hBP hP17 hBp e0 e1 e2 n0 n1 nl t0 t1 t2 t3 t4 tl huw hbx HB6X
                go_wp2_with fail
                go_loopw [15, 74] (fun y z wx => ∃ b : Nat, z = .int .i64 b ∧ b ≤ qs2.length ∧ y = .bool (M || (qs2.take b).any fun q => decide (Touch ⟨pp, pf, pt⟩ q)) ∧ Below w8.heap.size w8 wx) (fun _ z _ => qs2.length - (intOf z).toNat)
                case atStart => exact ⟨0, rfl, Nat.zero_le _, by simp, Below.refl _ _⟩
                case round =>
                  obtain ⟨b, rfl, hb, rfl, hby⟩ := hrel
                  obtain ⟨Y, hY⟩ : ∃ Y, (M || (qs2.take b).any fun q => decide (Touch ⟨pp, pf, pt⟩ q)) = Y := ⟨_, rfl⟩
                  rw [hY]
                  by_cases hbl : b < qs2.length
                  · have hbl' : (b : Int) < (qs2.length : Int) := by omega
                    have hY' : (M || (qs2.take (b + 1)).any fun q => decide (Touch ⟨pp, pf, pt⟩ q)) = (Y || decide (Touch ⟨pp, pf, pt⟩ qs2[b])) := by rw [any_take _ _ _ hbl, ← Bool.or_assoc, hY]
                    obtain ⟨qb, qoff, hae, hqb, g0, g1, g2⟩ := (unhide HQ8) b hbl
                    obtain ⟨⟨qp, qf, qe⟩, hq⟩ : ∃ q, qs2[b] = q := ⟨_, rfl⟩
                    rw [hq] at g0 g1 g2 hY'
                    dsimp only at g0 g1 g2
                    have e0 := (hby.cell hqb.2).trans g0
                    have e1 := (hby.cell hqb.2).trans g1
                    have e2 := (hby.cell hqb.2).trans g2
                    have hqw : qb < wr.heap.size := Nat.lt_of_lt_of_le hqb.2 hby.size
                    subst hae
                    have hPr := (unhide HBP).below hby
                    have f0 := hPr.2.1 0 _ rfl
                    have f1 := hPr.2.1 1 _ rfl
                    have f2 := hPr.2.1 2 _ rfl
                    have fl := hPr.1
                    have HY1 := hide hY'
                    have HBY := hide hby
                    clear g0 g1 g2 hq hY hY' hPr hby
                    have hwb : IntKind.i64.wrap ((b : Int) + 1) = ((b + 1 : Nat) : Int) := (wrap_small (by omega) (by omega)).trans (by omega)
                    have fin : ∀ (W : World) (v : Bool), Below wr.heap.size wr W → v = (Y || decide (Touch ⟨pp, pf, pt⟩ ⟨qp, qf, qe⟩)) → (∃ b' : Nat, Value.int IntKind.i64 ((b + 1 : Nat) : Int) = .int .i64 b' ∧ b' ≤ qs2.length ∧ Value.bool v = .bool (M || (qs2.take b').any fun q => decide (Touch ⟨pp, pf, pt⟩ q)) ∧ Below w8.heap.size w8 W) := fun W v h1 h2 => ⟨b + 1, rfl, hbl, by rw [unhide HY1, h2], below_then (unhide HBY) h1⟩
                    have HFIN := hide fin
                    clear fin
                    cases Y with
                    | true =>
                      go_wp2_with fail
                      exact ⟨unhide HFIN _ _ (by repeat (first | with_reducible exact Below.refl _ _ | refine Below.setCell ?_ (by first | omega | (simp <;> omega) | (simp [World.setCell] <;> omega)) _ | refine Below.alloc ?_ (by first | omega | (simp <;> omega) | (simp [World.setCell] <;> omega)) _ | refine Below.drew ?_ | refine below_draws ?_ _ | exact Below.refl _ _)) (by simp), by simp [intOf]; omega⟩
                    | false =>
                      by_cases c1 : pp = qp
                      · subst c1
                        by_cases c2 : pf ≤ qe
                        · by_cases c3 : qf ≤ pt
                          · go_wp2_with fail
                            exact ⟨unhide HFIN _ _ (by repeat (first | with_reducible exact Below.refl _ _ | refine Below.setCell ?_ (by first | omega | (simp <;> omega) | (simp [World.setCell] <;> omega)) _ | refine Below.alloc ?_ (by first | omega | (simp <;> omega) | (simp [World.setCell] <;> omega)) _ | refine Below.drew ?_ | refine below_draws ?_ _ | exact Below.refl _ _)) (by simp [Touch, c2, c3]), by simp [intOf]; omega⟩
                          · have c3' : ¬ qf ≤ pt := c3
                            go_wp2_with fail
                            exact ⟨unhide HFIN _ _ (by repeat (first | with_reducible exact Below.refl _ _ | refine Below.setCell ?_ (by first | omega | (simp <;> omega) | (simp [World.setCell] <;> omega)) _ | refine Below.alloc ?_ (by first | omega | (simp <;> omega) | (simp [World.setCell] <;> omega)) _ | refine Below.drew ?_ | refine below_draws ?_ _ | exact Below.refl _ _)) (by simp [Touch]; omega), by simp [intOf]; omega⟩
                        · have c2' : ¬ pf ≤ qe := c2
                          go_wp2_with fail
                          exact ⟨unhide HFIN _ _ (by repeat (first | with_reducible exact Below.refl _ _ | refine Below.setCell ?_ (by first | omega | (simp <;> omega) | (simp [World.setCell] <;> omega)) _ | refine Below.alloc ?_ (by first | omega | (simp <;> omega) | (simp [World.setCell] <;> omega)) _ | refine Below.drew ?_ | refine below_draws ?_ _ | exact Below.refl _ _)) (by simp [Touch]; omega), by simp [intOf]; omega⟩
                      · have c1' : (pp == qp) = false := by rw [beq_eq_false_iff_ne]; exact c1
                        go_wp2_with fail
                        exact ⟨unhide HFIN _ _ (by repeat (first | with_reducible exact Below.refl _ _ | refine Below.setCell ?_ (by first | omega | (simp <;> omega) | (simp [World.setCell] <;> omega)) _ | refine Below.alloc ?_ (by first | omega | (simp <;> omega) | (simp [World.setCell] <;> omega)) _ | refine Below.drew ?_ | refine below_draws ?_ _ | exact Below.refl _ _)) (by simp [Touch, c1]), by simp [intOf]; omega⟩
                  · have hbl' : ¬ (b : Int) < (qs2.length : Int) := by omega
                    have hbe : b = qs2.length := by omega
                    have hYY : Y = met2 (us.take (a + 1)) qs2 := by rw [unhide HM1, ← hY, hbe, List.take_length]
                    have HYY := hide hYY
                    clear hYY hY
                    go_wp2_with fail
                    exact ⟨⟨a + 1, rfl, hal, by rw [unhide HYY], below_then (unhide HB78) hby⟩, by simp [intOf]; omega⟩
              · have hal' : ¬ (a : Int) < (us.length : Int) := by omega
                have hae : a = us.length := by omega
                have HMM : Hid (M = met2 us qt) := by rw [← hM, hae, List.take_length]; rfl
                clear hM
                have hB6x := below_then (unhide HB67) hbx
                have hBXx := And.intro ((unhide HBX6).1.below hB6x) ((unhide HBX6).2.below hB6x)
                have hUx := (unhide HBU).below hbx
                have n0 := hBXx.1.2.1 0 _ rfl
                have n1 := hBXx.1.2.1 1 _ rfl
                have nl := hBXx.1.1
                have t0 := hBXx.2.2.1 0 _ rfl
                have t1 := hBXx.2.2.1 1 _ rfl
                have t2 := hBXx.2.2.1 2 _ rfl
                have t3 := hBXx.2.2.1 3 _ rfl
                have t4 := hBXx.2.2.1 4 _ rfl
                have tl := hBXx.2.1
                have u0 := hUx.2.1 0 _ rfl
                have u1 := hUx.2.1 1 _ rfl
                have u2 := hUx.2.1 2 _ rfl
                have u3 := hUx.2.1 3 _ rfl
                have u4 := hUx.2.1 4 _ rfl
                have ul := hUx.1
                have HB6X := hide hB6x
                have hst := ((stRow_sts0 (unhide HS6)).1.below hB6x)
                have hsu2 := (((unhide HSU).below hB6x).mono (Nat.zero_le _))
                have HST := hide hst
                have HSU2 := hide hsu2
                have hPM : P i = M := by rw [unhide HPI, unhide HMM, unhide HUE]
                have hm1 : MeetP n t u ↔ M = true := by rw [unhide HMM, unhide HUE, ← unhide HQT]; exact meet_met (unhide HTR) (unhide HUR)
                have hm2 : MeetP n u t ↔ M = true := by rw [unhide HMM, unhide HUE, ← unhide HQT]; exact meet_met' (unhide HTR) (unhide HUR)
                have HPM := hide hPM
                have HM12 := hide (And.intro hm1 hm2)
                clear hBXx hUx hB6x hst hsu2 hPM hm1 hm2 hal hal'
                go_wp2_with fail
                refine (implMeet_any _ n t u ta ua tc uc _ ((unhide HN6).below (unhide HB6X)) (unhide HST) (unhide HSU2) hcap0 hcu (by omega) (by omega) (by have := (unhide HSM).pcs; omega) (by have := (unhide HSM).jts; omega) (unhide HLE') (unhide HSM).hnm).mono ?_
                rintro e w9 ⟨hr9, hb9⟩
                have he9 := retB_val hr9 (unhide HM12).1
                subst he9
                have hB69 := below_then (unhide HB6X) hb9
                have hBX9 := And.intro ((unhide HBX6).1.below hB69) ((unhide HBX6).2.below hB69)
                have hU9 := ((unhide HBU).below hbx).below hb9
                have n0 := hBX9.1.2.1 0 _ rfl
                have n1 := hBX9.1.2.1 1 _ rfl
                have nl := hBX9.1.1
                have t0 := hBX9.2.2.1 0 _ rfl
                have t1 := hBX9.2.2.1 1 _ rfl
                have t2 := hBX9.2.2.1 2 _ rfl
                have t3 := hBX9.2.2.1 3 _ rfl
                have t4 := hBX9.2.2.1 4 _ rfl
                have tl := hBX9.2.1
                have u0 := hU9.2.1 0 _ rfl
                have u1 := hU9.2.1 1 _ rfl
                have u2 := hU9.2.1 2 _ rfl
                have u3 := hU9.2.1 3 _ rfl
                have u4 := hU9.2.1 4 _ rfl
                have ul := hU9.1
                have HST9 := hide ((unhide HST).below hb9)
                have HSU9 := hide ((unhide HSU2).below hb9)
                have HB69 := hide hB69
                have hMM : (M != M) = false := by simp
                clear hr9 hb9 hB69 hBX9 hU9
                go_wp2_with fail
                refine (implMeet_any _ n u t ua ta uc tc _ ((unhide HN6).below (unhide HB69)) (unhide HSU9) (unhide HST9) hcu hcap0 (by omega) (by omega) (by have := (unhide HSM).pcs; omega) (by have := (unhide HSM).jts; omega) (unhide HLE') (unhide HSM).hnm).mono ?_
                rintro e w10 ⟨hr10, hb10⟩
                have he10 := retB_val hr10 (unhide HM12).2
                subst he10
                have hB6z := below_then (unhide HB69) hb10
                clear hr10 hb10 n0 n1 nl t0 t1 t2 t3 t4 tl u0 u1 u2 u3 u4 ul
                cases M with
                | true =>
                  obtain ⟨hkk, hget⟩ := metL_get P hlt (unhide HPM)
                  rw [unhide HKK] at hkk
                  have hks : k < ks.length := by rw [unhide HKE2]; exact hkk
                  have hkg : ks[k] = (i : Int) := by
                    have := hget
                    simp only [unhide HKK] at this
                    simp only [unhide HKE2]
                    exact this
                  obtain ⟨kb, koff, hae, hkb, kc⟩ := (unhide HKI).2 k hks
                  rw [hkg] at kc
                  have kc2 := (hB6z.cell hkb.2).trans kc
                  have hkw : kb < w10.heap.size := Nat.lt_of_lt_of_le hkb.2 hB6z.size
                  subst hae
                  have hks' : ¬ (ks.length : Int) ≤ (k : Int) := by omega
                  have hks2 : (k : Int) < (ks.length : Int) := by omega
                  have HKS : Hid ((metL P (i + 1)).length = k + 1) := by unfold Hid; rw [metL_succ, unhide HPM, if_pos rfl, List.length_append, unhide HKK]; rfl
                  clear hget hkk hkg kc hMM
                  go_wp2_with fail
                  exact ⟨⟨i + 1, rfl, by omega, by rw [unhide HKS]; simp, hB6z⟩, by simp [intOf]; omega⟩
                | false =>
                  have HKS : Hid ((metL P (i + 1)).length = k) := by unfold Hid; rw [metL_succ, unhide HPM]; simp; exact unhide HKK
                  clear hMM
                  go_wp2_with fail
                  exact ⟨⟨i + 1, rfl, by omega, by rw [unhide HKS], hB6z⟩, by simp [intOf]; omega⟩
          · have hlt' : ¬ (i : Int) < (m : Int) := by omega
            have him : i = m := by omega
            have hkk : k = ks.length := by rw [unhide HKE2, ← hk, him]
            subst hkk
            go_wp2_with fail
            go_ret
            exact ⟨rfl, (unhide HBW).trans (hbr.mono (unhide HBW).size)⟩
end Go.Proofs.Ytbdggfpfpjijoaa

