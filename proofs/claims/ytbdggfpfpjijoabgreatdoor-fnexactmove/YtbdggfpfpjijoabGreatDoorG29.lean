import Derived.Test.YtbdggfpfpjijoabGreatDoorG28
namespace Go.Proofs.YtbdggfpfpjijoabGreatDoor
open Go.RowKit

/-- A body's own cells, one set. -/
theorem GB.set {w : World} {B : Nat} {k0 k1 k2 : Value} {s : Sp} {long sp : Int} {xs : List St} (h : GB w B k0 k1 k2 s long sp xs) :
    (∀ p, GB (w.setCell ⟨B, 0, none⟩ (.int .i64 p)) B k0 k1 k2 ⟨p, s.at_, s.way⟩ long sp xs) ∧ (∀ a, GB (w.setCell ⟨B, 1, none⟩ (.int .i64 a)) B k0 k1 k2 ⟨s.piece, a, s.way⟩ long sp xs)
    ∧ (∀ y, GB (w.setCell ⟨B, 2, none⟩ (.int .i64 y)) B k0 k1 k2 ⟨s.piece, s.at_, y⟩ long sp xs) ∧ (∀ q, GB (w.setCell ⟨B, 7, none⟩ (.int .i64 q)) B k0 k1 k2 s long q xs) := by
  obtain ⟨f, fs, ho, hi⟩ := h
  have hring : ∀ (c : Nat) (v : Value), c < 8 → ∀ i, i < xs.length → (if 8 + ((fs + i) % 201) * 2 = c then v else f (8 + ((fs + i) % 201) * 2)) = .int .i64 (xs.getD i ⟨0, 0⟩).piece ∧ (if 8 + ((fs + i) % 201) * 2 + 1 = c then v else f (8 + ((fs + i) % 201) * 2 + 1)) = .int .i64 (xs.getD i ⟨0, 0⟩).way := fun c v hc i hx => by
    rw [if_neg (by omega), if_neg (by omega)]
    exact hi.ring i hx
  refine ⟨fun p => ?_, fun a => ?_, fun y => ?_, fun q => ?_⟩
  · exact ⟨_, fs, ho.set0 (i := 0) (by omega) _, ⟨hi.lt, rfl, hi.c1, hi.c2, hi.c3, hi.c4, hi.c5, hi.c6, hi.c7, hi.c410, hi.c411, hi.few, hring 0 _ (by omega)⟩⟩
  · exact ⟨_, fs, ho.set0 (i := 1) (by omega) _, ⟨hi.lt, hi.c0, rfl, hi.c2, hi.c3, hi.c4, hi.c5, hi.c6, hi.c7, hi.c410, hi.c411, hi.few, hring 1 _ (by omega)⟩⟩
  · exact ⟨_, fs, ho.set0 (i := 2) (by omega) _, ⟨hi.lt, hi.c0, hi.c1, rfl, hi.c3, hi.c4, hi.c5, hi.c6, hi.c7, hi.c410, hi.c411, hi.few, hring 2 _ (by omega)⟩⟩
  · exact ⟨_, fs, ho.set0 (i := 7) (by omega) _, ⟨hi.lt, hi.c0, hi.c1, hi.c2, hi.c3, hi.c4, hi.c5, hi.c6, rfl, hi.c410, hi.c411, hi.few, hring 7 _ (by omega)⟩⟩

theorem GB.far {w : World} {B : Nat} {k0 k1 k2 : Value} {s : Sp} {long sp : Int} {xs : List St} {x : St} (h : GB w B k0 k1 k2 s long sp (xs ++ [x])) : GB (w.setCell ⟨B, 411, none⟩ (.int .i64 xs.length)) B k0 k1 k2 s long sp xs := by
  obtain ⟨f, fs, ho, hi⟩ := h
  have hfew := hi.few
  simp at hfew
  refine ⟨_, fs, ho.set0 (i := 411) (by omega) _, ⟨hi.lt, hi.c0, hi.c1, hi.c2, hi.c3, hi.c4, hi.c5, hi.c6, hi.c7, hi.c410, rfl, by omega, fun i hx => ?_⟩⟩
  have hm : (fs + i) % 201 < 201 := Nat.mod_lt _ (by omega)
  have := hi.ring i (by simp; omega)
  have hg : (xs ++ [x]).getD i ⟨0, 0⟩ = xs.getD i ⟨0, 0⟩ := by simp [List.getElem?_append_left hx]
  rw [hg] at this
  try dsimp only
  rw [if_neg (by omega), if_neg (by omega)]
  exact this

theorem gTakeFar_any (B : Nat) (k0 k1 k2 : Value) (s : Sp) (long sp : Int) (xs : List St) (x : St) (w : World) (h : GB w B k0 k1 k2 s long sp (xs ++ [x])) :
    Calls Tryz.prog 166 #[.pointer (some ⟨B, 8, none⟩)] w fun e w' => e = .returned (.tuple #[.agg #[.int .i64 x.piece, .int .i64 x.way], .bool true]) ∧ GB w' B k0 k1 k2 s long sp xs ∧ Only (fun k => k = B) w w' := by
  obtain ⟨fs, hr⟩ := h.ring
  refine (takeFar_any B 8 fs xs x w hr).mono fun e w' ⟨he, _, ho, hb⟩ => ⟨he, ?_, ho⟩
  exact h.far.below (by rw [setCell_size]; exact hb)

theorem GB.near {w : World} {B : Nat} {k0 k1 k2 : Value} {s : Sp} {long sp : Int} {xs : List St} (x : St) (f : Nat → Value) (fs : Nat) (ho : OwnC w B 0 412 f) (hi : BodyIs f fs k0 k1 k2 s long sp xs) (hx : xs.length ≤ 200) {m : Nat} (hm : (fs + 200) % 201 = m) :
    GB ((((w.setCell ⟨B, 410, none⟩ (.int .i64 m)).setCell ⟨B, 8 + m * 2, none⟩ (.int .i64 x.piece)).setCell ⟨B, 8 + m * 2 + 1, none⟩ (.int .i64 x.way)).setCell ⟨B, 411, none⟩ (.int .i64 ((xs.length : Int) + 1))) B k0 k1 k2 s long sp (x :: xs) := by
  have hm2 : m < 201 := by omega
  have hN : ∀ c, c < 8 → (if c = 411 then (.int .i64 ((xs.length : Int) + 1) : Value) else if c = 8 + m * 2 + 1 then .int .i64 x.way else if c = 8 + m * 2 then .int .i64 x.piece else if c = 410 then .int .i64 m else f c) = f c := fun c hc => by
    rw [if_neg (by omega), if_neg (by omega), if_neg (by omega), if_neg (by omega)]
  refine ⟨_, m, ((((ho.set0 (i := 410) (by omega) (.int .i64 m)).set0 (i := 8 + m * 2) (by omega) (.int .i64 x.piece)).set0 (i := 8 + m * 2 + 1) (by omega) (.int .i64 x.way)).set0 (i := 411) (by omega) (.int .i64 ((xs.length : Int) + 1))),
    ⟨hm2, (hN 0 (by omega)).trans hi.c0, (hN 1 (by omega)).trans hi.c1, (hN 2 (by omega)).trans hi.c2, (hN 3 (by omega)).trans hi.c3, (hN 4 (by omega)).trans hi.c4, (hN 5 (by omega)).trans hi.c5, (hN 6 (by omega)).trans hi.c6, (hN 7 (by omega)).trans hi.c7, ?_, ?_, by simp; omega, fun i hx' => ?_⟩⟩
  · try dsimp only
    rw [if_neg (by omega), if_neg (by omega), if_neg (by omega), if_pos rfl]
  · try dsimp only
    rw [if_pos rfl]
    simp
  · try dsimp only
    cases i with
    | zero =>
      have e0 : (m + 0) % 201 = m := by omega
      rw [e0]
      simp only [List.getD_cons_zero]
      constructor
      · rw [if_neg (by omega), if_neg (by omega)]
        simp
      · rw [if_neg (by omega)]
        simp
    | succ i =>
      simp at hx'
      have e0 : (m + (i + 1)) % 201 = (fs + i) % 201 := by omega
      have hlt : (fs + i) % 201 < 201 := Nat.mod_lt _ (by omega)
      have hne : (fs + i) % 201 ≠ m := by omega
      rw [e0]
      simp only [List.getD_cons_succ]
      have := hi.ring i hx'
      constructor
      · rw [if_neg (by omega), if_neg (by omega), if_neg (by omega), if_neg (by omega)]
        exact this.1
      · rw [if_neg (by omega), if_neg (by omega), if_neg (by omega), if_neg (by omega)]
        exact this.2

theorem gAddNear_any (B : Nat) (k0 k1 k2 : Value) (s : Sp) (long sp : Int) (xs : List St) (x : St) (w : World) (h : GB w B k0 k1 k2 s long sp xs) (hx : xs.length ≤ 200) :
    Calls Tryz.prog 137 #[.pointer (some ⟨B, 8, none⟩), .agg #[.int .i64 x.piece, .int .i64 x.way]] w fun e w' => (∃ v, e = .returned v) ∧ GB w' B k0 k1 k2 s long sp (x :: xs) ∧ Only (fun k => k = B) w w' := by
  obtain ⟨f, fs, ho, hi⟩ := h
  have hr : RingC w B 8 fs xs := by
    refine ⟨fun j => f (8 + j), ⟨ho.1, fun j hj => ?_⟩, hi.lt, hi.few, ?_, ?_, fun i hx => ?_⟩
    · have := ho.2 (8 + j) (by omega)
      simpa using this
    · show f (8 + 402) = _
      exact hi.c410
    · show f (8 + 403) = _
      exact hi.c411
    · exact hi.ring i hx
  refine (addNear_any B 8 fs xs x w hr hx).mono fun e w' ⟨he, ⟨fs', h1, _, hb⟩, hon⟩ => ⟨he, ?_, hon⟩
  exact (GB.near x f fs ho hi hx h1.symm).below (by rw [setCell_size, setCell_size, setCell_size, setCell_size]; exact hb)

end Go.Proofs.YtbdggfpfpjijoabGreatDoor

namespace Go.Proofs.YtbdggfpfpjijoabGreatDoor
open Go.RowKit

/-- What is left behind: from the far end on, whole pieces that lie behind the tail. -/
def leaveR (n : Nt) : Int → List St → Int × List St
  | sp, [] => (sp, [])
  | sp, x :: r => if sp < lenOf n x.piece then (sp, x :: r) else leaveR n (sp - lenOf n x.piece) r

theorem field_step (p y : Int) (W : World) : (Instr.field 86 (.agg #[.int .i64 p, .int .i64 y]) 0).run Tryz.prog W = .ok (.int .i64 p) W := by kernel_rfl

theorem gStepAt_last (B : Nat) (k0 k1 k2 : Value) (s : Sp) (long sp : Int) (zs : List St) (xp xy : Int) (w : World) (h : GB w B k0 k1 k2 s long sp (zs ++ [⟨xp, xy⟩])) :
    Calls Tryz.prog 130 #[.pointer (some ⟨B, 0, none⟩), .int .i64 ((zs.length + 1 : Nat) : Int)] w fun e w' => e = .returned (.agg #[.int .i64 xp, .int .i64 xy]) ∧ Below w.heap.size w w' :=
  (gStepAt_any B (zs.length + 1) k0 k1 k2 s long sp (zs ++ [⟨xp, xy⟩]) w h (by simp)).mono fun e w' ⟨he, hb⟩ => ⟨by rw [he]; simp [stepOf], hb⟩

set_option maxRecDepth 100000 in
set_option maxHeartbeats 4000000 in
theorem leaveBehind_any (B : Nat) (n : Nt) (ka ksh kst : Option Addr) (kca kcsh kcst : Nat) (s : Sp) (long sp : Int) (xs : List St) (w : World) (h : GB w B (.slice ka n.pieces.length kca) (.slice ksh n.joints.length kcsh) (.slice kst n.pieces.length kcst) s long sp xs)
    (hkO : ∀ wb, Only (fun k => k = B) w wb → PcsAt 0 wb ka n.pieces) (hG : NetGood n) (hxs : ∀ x ∈ xs, StepOk n x) (hsp : 0 ≤ sp ∧ sp ≤ 100000000000) :
    Calls Tryz.prog 139 #[.pointer (some ⟨B, 0, none⟩)] w fun e w' => (∃ v, e = .returned v) ∧ GB w' B (.slice ka n.pieces.length kca) (.slice ksh n.joints.length kcsh) (.slice kst n.pieces.length kcst) s long (leaveR n sp xs.reverse).1 (leaveR n sp xs.reverse).2.reverse ∧ Only (fun k => k = B) w w' := by
  have H := hide h
  have HKO := hide hkO
  have HXS := hide hxs
  clear h hkO hxs
  go_enter Tryz.func139, Tryz.ntmps139
  go_wp2_with fail
  go_loopw [2] (fun _ wr => ∃ (q : Int) (ys : List St), (0 ≤ q ∧ q ≤ 100000000000) ∧ Hid (GB wr B (.slice ka n.pieces.length kca) (.slice ksh n.joints.length kcsh) (.slice kst n.pieces.length kcst) s long q ys) ∧ Hid (leaveR n q ys.reverse = leaveR n sp xs.reverse) ∧ Hid (∀ x ∈ ys, StepOk n x) ∧ Hid (Only (fun k => k = B) w wr))
    (fun _ wr => (intOf ((wr.cell? ⟨B, 411, none⟩).getD (.int .i64 0))).toNat)
  case atStart => exact ⟨sp, xs, hsp, H, hide rfl, HXS, hide (only_refl _ _)⟩
  case round =>
    obtain ⟨q, ys, hq, HB, HE, HYS, HON⟩ := hrel
    have hgb := unhide HB
    obtain ⟨_, _, _, c3, _, _, _, c7, c411⟩ := hgb.cells
    have hB := hgb.lt
    clear hgb
    rcases List.eq_nil_or_concat ys with rfl | ⟨zs, x, rfl⟩
    · simp only [List.length_nil] at c411
      have HE2 : Hid (leaveR n sp xs.reverse = (q, [])) := by
        unfold Hid
        rw [← unhide HE]
        simp [leaveR]
      go_wp2
      go_end0
      refine ⟨⟨_, rfl⟩, ?_, unhide HON⟩
      rw [unhide HE2]
      exact unhide HB
    · rw [List.concat_eq_append] at HB HE HYS c411
      simp only [List.length_append, List.length_singleton] at c411
      have hpos : (0 : Int) < ((zs.length + 1 : Nat) : Int) := by omega
      have hxok := unhide HYS x (by simp)
      have hlen := hG.len hxok.1.1 hxok.1.2
      obtain ⟨pb, poff, hka, hpb, p1⟩ := (unhide HKO wr (unhide HON)).len hxok.1.1 hxok.1.2
      subst hka
      obtain ⟨xp, xy⟩ := x
      dsimp only at p1 hlen
      have hx0 := hxok.1
      dsimp only at hx0
      obtain ⟨xn, rfl⟩ := Int.eq_ofNat_of_zero_le hx0.1
      simp only [Int.toNat_natCast] at p1
      clear hxok
      have hfl := field_step
      go_wp2_with fail
      go_region_held3 (fun w' => w'.cell? ⟨B, 3, none⟩ = some (.slice (some ⟨pb, poff, none⟩) n.pieces.length kca) ∧ w'.cell? ⟨B, 411, none⟩ = some (.int .i64 ((zs.length + 1 : Nat) : Int)) ∧ w'.cell? ⟨pb, poff + xn * 4 + 1, none⟩ = some (.int .i64 (lenOf n xn)))
        (((try dsimp only); (repeat' apply And.intro)) <;> (go_keep; done))
        (first
          | (go_at_call 130; refine (gStepAt_last B _ _ _ s long q zs xn xy _ ((unhide HB).below (by repeat (first | with_reducible exact Below.refl _ _ | refine Below.setCell ?_ (by first | omega | (simp <;> omega) | (simp [World.setCell] <;> omega)) _ | refine Below.alloc ?_ (by first | omega | (simp <;> omega) | (simp [World.setCell] <;> omega)) _ | refine Below.drew ?_ | refine below_draws ?_ _ | exact Below.refl _ _)))).mono ?_; rintro e wq ⟨rfl, hbq0⟩; obtain ⟨hcq, hfq⟩ := bcell hbq0; have q0 := hcq (B) (3) (by first | (simp; done) | (simp; omega) | omega); have q1 := hcq (B) (411) (by first | (simp; done) | (simp; omega) | omega); have qp := hcq pb (poff + xn * 4 + 1) (by first | omega | (simp; omega))))
      have hbq : Below wr.heap.size wr wq := below_then (by repeat (first | with_reducible exact Below.refl _ _ | refine Below.setCell ?_ (by first | omega | (simp <;> omega) | (simp [World.setCell] <;> omega)) _ | refine Below.alloc ?_ (by first | omega | (simp <;> omega) | (simp [World.setCell] <;> omega)) _ | refine Below.drew ?_ | refine below_draws ?_ _ | exact Below.refl _ _)) hbq0
      clear hcq hfq q0 q1 qp
      have hgq := (unhide HB).below hbq
      obtain ⟨_, _, _, _, _, _, _, d7, _⟩ := hgq.cells
      have HBQ := hide hgq
      clear hgq c3 c7
      by_cases hlt : q < lenOf n xn
      · have HE2 : Hid (leaveR n sp xs.reverse = (q, (zs ++ ([⟨xn, xy⟩] : List St)).reverse)) := by
          unfold Hid
          rw [← unhide HE]
          simp [leaveR, hlt]
        go_wp2
        refine bodyPost_ret (results_none rfl _ _ _) rfl ?_
        refine ⟨⟨_, rfl⟩, ?_, (unhide HON).trans (only_of_below hbq)⟩
        rw [unhide HE2, List.reverse_reverse]
        exact unhide HBQ
      · have HE2 : Hid (leaveR n (q - lenOf n xn) zs.reverse = leaveR n sp xs.reverse) := by
          unfold Hid
          rw [← unhide HE]
          simp [leaveR, hlt]
        go_wp2_with fail
        refine (gTakeFar_any B _ _ _ s long q zs ⟨xn, xy⟩ _ (unhide HBQ)).mono ?_
        rintro e w2 ⟨rfl, hgb2, ho2⟩
        obtain ⟨_, _, _, _, _, _, _, f7, f411⟩ := hgb2.cells
        have f7z : w2.frozen? ⟨B, 7, none⟩ = false := by obtain ⟨f, fs, ho, _⟩ := hgb2; simpa using (ho.2 7 (by omega)).2
        have hB2 := hgb2.lt
        have HB2 := hide hgb2
        have HO2 := hide ho2
        clear hgb2 ho2 d7
        go_wp2
        refine ⟨⟨q - lenOf n xn, zs, ⟨by omega, by omega⟩, hide ((unhide HB2).set.2.2.2 _), HE2, hide fun y hy => unhide HYS y (by simp [hy]), hide (((unhide HON).trans (only_of_below hbq)).trans ((unhide HO2).trans (only_setCell (S := fun k => k = B) _ (p := ⟨B, 7, none⟩) rfl _)))⟩, ?_⟩
        rw [c411, World.cell?_setCell_other _ _ _ _ (by simp), f411]
        simp [intOf]

end Go.Proofs.YtbdggfpfpjijoabGreatDoor

