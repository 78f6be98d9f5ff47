import Derived.Test.YtbdggfpfpjijoabG26
import Derived.Test.YtbdggfpfpjijoabTouch
namespace Go.Proofs.Ytbdggfpfpjijoab
open Go.RowKit

def MeetP (n : Nt) (a b : Tr) : Prop := TrainRight n a ∧ TrainFits n b ∧ TouchL (bodyParts n a) (bodyParts n b)

theorem bodyParts_len {n : Nt} (hG : NetGood n) {t : Tr} (hF : TrainFits n t) : (bodyParts n t).length ≤ 201 := by
  rw [bodyParts_eq hG hF]
  have := partsB_len n t.front (spare n t) t.back
  have := hF.2.2.1
  omega

theorem specTrainOk_T (v tv : Value) (n : Nt) (t : Tr) (w : World) {L L' : Nat} (hv : NetAt L w v n) (htv : TrAt L' w tv t) (hl : n.pieces.length ≤ 1048576) (hl' : n.joints.length ≤ 1048576)
    (hle : ∀ i (h : i < n.joints.length), n.joints[i].ends.length ≤ 1048576 ∧ n.joints[i].name.size ≤ maxLen) (hnm : ∀ i (h : i < n.pieces.length), n.pieces[i].name.size ≤ maxLen) (hbl : t.back.length ≤ 1048576) (hR : TrainRight n t) :
    Calls Try.prog 24 #[v, tv] w fun e w' => e = .returned (.bool true) ∧ Below w.heap.size w w' :=
  (specTrainOk_any v tv n t w hv htv hl hl' hle hnm hbl).mono fun e w' ⟨hs, hb⟩ => by
    rcases hs with ⟨rfl, h⟩ | ⟨rfl, h⟩
    · exact ⟨rfl, hb⟩
    · exact absurd hR h
theorem specTrainOk_F (v tv : Value) (n : Nt) (t : Tr) (w : World) {L L' : Nat} (hv : NetAt L w v n) (htv : TrAt L' w tv t) (hl : n.pieces.length ≤ 1048576) (hl' : n.joints.length ≤ 1048576)
    (hle : ∀ i (h : i < n.joints.length), n.joints[i].ends.length ≤ 1048576 ∧ n.joints[i].name.size ≤ maxLen) (hnm : ∀ i (h : i < n.pieces.length), n.pieces[i].name.size ≤ maxLen) (hbl : t.back.length ≤ 1048576) (hR : ¬ TrainRight n t) :
    Calls Try.prog 24 #[v, tv] w fun e w' => e = .returned (.bool false) ∧ Below w.heap.size w w' :=
  (specTrainOk_any v tv n t w hv htv hl hl' hle hnm hbl).mono fun e w' ⟨hs, hb⟩ => by
    rcases hs with ⟨rfl, h⟩ | ⟨rfl, h⟩
    · exact absurd h hR
    · exact ⟨rfl, hb⟩
theorem l2train_T (v tv : Value) (n : Nt) (t : Tr) (w : World) {L L' : Nat} (hv : NetAt L w v n) (htv : TrAt L' w tv t) (hG : NetGood n) (hbl : t.back.length ≤ 1048576) (hR : TrainFits n t) :
    Calls Try.prog 36 #[v, tv] w fun e w' => e = .returned (.bool true) ∧ Below w.heap.size w w' :=
  (l2train_any v tv n t w hv htv hG hbl).mono fun e w' ⟨hs, hb⟩ => by
    rcases hs with ⟨rfl, h⟩ | ⟨rfl, h⟩
    · exact ⟨rfl, hb⟩
    · exact absurd hR h
theorem l2train_F (v tv : Value) (n : Nt) (t : Tr) (w : World) {L L' : Nat} (hv : NetAt L w v n) (htv : TrAt L' w tv t) (hG : NetGood n) (hbl : t.back.length ≤ 1048576) (hR : ¬ TrainFits n t) :
    Calls Try.prog 36 #[v, tv] w fun e w' => e = .returned (.bool false) ∧ Below w.heap.size w w' :=
  (l2train_any v tv n t w hv htv hG hbl).mono fun e w' ⟨hs, hb⟩ => by
    rcases hs with ⟨rfl, h⟩ | ⟨rfl, h⟩
    · exact absurd h hR
    · exact ⟨rfl, hb⟩
theorem l2body_b (v tv : Value) (n : Nt) (t : Tr) (w : World) {L L' : Nat} (hv : NetAt L w v n) (htv : TrAt L' w tv t) (hG : NetGood n) (hF : TrainFits n t) :
    Calls Try.prog 41 #[v, tv] w fun e w' => ∃ a cap, e = .returned (.slice a (bodyParts n t).length cap) ∧ PtsAt 0 w' a (bodyParts n t) ∧ Below w.heap.size w w' :=
  (l2body_any v tv n t w hv htv hG hF).mono fun e w' ⟨u, he, hr, hb⟩ => by
    obtain ⟨a, cap, hv, _, hx⟩ := ptRow_at (hr.mono (Nat.zero_le _))
    exact ⟨a, cap, by rw [he, hv], hx, hb⟩
theorem l2touch_b (a b : Option Addr) (ca cb : Nat) (ps qs : List Pt) (w : World) {L L' : Nat} (hp : PtsAt L w a ps) (hq : PtsAt L' w b qs) (hl : ps.length ≤ 1048576) (hl' : qs.length ≤ 1048576) :
    Calls Try.prog 40 #[.slice a ps.length ca, .slice b qs.length cb] w fun e w' => ∃ sb : Bool, e = .returned (.bool sb) ∧ (sb = true ↔ TouchL ps qs) ∧ Below w.heap.size w w' :=
  (l2touch_any a b ca cb ps qs w hp hq hl hl').mono fun e w' ⟨hs, hb⟩ => by
    rcases hs with ⟨rfl, h⟩ | ⟨rfl, h⟩
    · exact ⟨true, rfl, by simp [h], hb⟩
    · exact ⟨false, rfl, by simp [h], hb⟩

set_option maxRecDepth 100000 in
set_option maxHeartbeats 4000000 in
theorem specMeet_b (v tv uv : Value) (n : Nt) (t u : Tr) (w : World) {L L' L'' : Nat} (hv : NetAt L w v n) (htv : TrAt L' w tv t) (huv : TrAt L'' w uv u) (hl : n.pieces.length ≤ 1048576) (hl' : n.joints.length ≤ 1048576)
    (hle : ∀ i (h : i < n.joints.length), n.joints[i].ends.length ≤ 1048576 ∧ n.joints[i].name.size ≤ maxLen) (hnm : ∀ i (h : i < n.pieces.length), n.pieces[i].name.size ≤ maxLen) (hbl : t.back.length ≤ 1048576) (hbl' : u.back.length ≤ 1048576) :
    Calls Try.prog 19 #[v, tv, uv] w fun e w' => ∃ sb : Bool, e = .returned (.bool sb) ∧ (sb = true ↔ MeetP n t u) ∧ Below w.heap.size w w' := by
  have hvv := hv
  have htt := htv
  have huu := huv
  obtain ⟨x, c, ca, cc, rfl, hp, hj⟩ := hv
  obtain ⟨ta, tc, rfl, hts⟩ := htv
  obtain ⟨ua, uc, rfl, hus⟩ := huv
  by_cases hR : TrainRight n t
  · have hG := netGood hR.1
    by_cases hF : TrainFits n u
    · have HR := hide hR
      have HF := hide hF
      clear hR hF
      have l1 := bodyParts_len hG (unhide HR).2
      have l2 := bodyParts_len hG (unhide HF)
      have HMP : ∀ sb : Bool, Hid (sb = true ↔ TouchL (bodyParts n t) (bodyParts n u)) → (sb = true ↔ MeetP n t u) := fun sb h => h.trans ⟨fun g => ⟨unhide HR, unhide HF, g⟩, fun g => g.2.2⟩
      have HL1 := hide l1
      have HL2 := hide l2
      clear l1 l2
      have hU := boxedN ((w.alloc (.cells #[.slice x n.pieces.length ca, .slice c n.joints.length cc] 38)).alloc (.cells #[.int .i64 t.front.piece, .int .i64 t.front.at_, .int .i64 t.front.way, .int .i64 t.long, .slice ta t.back.length tc] 42)) #[.int .i64 u.front.piece, .int .i64 u.front.at_, .int .i64 u.front.way, .int .i64 u.long, .slice ua u.back.length uc] 42 (N := w.heap.size + 1 + 1) (by simp)
      have u0 := hU.2.1 0 _ rfl
      have u1 := hU.2.1 1 _ rfl
      have u2 := hU.2.1 2 _ rfl
      have u3 := hU.2.1 3 _ rfl
      have u4 := hU.2.1 4 _ rfl
      go_enter Try.func19, Try.ntmps19
      go_wp2_with fail
      go_region_held3 (fun w' => w'.cell? ⟨w.heap.size, 0, none⟩ = some (.slice x n.pieces.length ca) ∧ w'.cell? ⟨w.heap.size, 1, none⟩ = some (.slice c n.joints.length cc)
          ∧ w'.cell? ⟨w.heap.size + 1, 0, none⟩ = some (.int .i64 t.front.piece) ∧ w'.cell? ⟨w.heap.size + 1, 1, none⟩ = some (.int .i64 t.front.at_) ∧ w'.cell? ⟨w.heap.size + 1, 2, none⟩ = some (.int .i64 t.front.way) ∧ w'.cell? ⟨w.heap.size + 1, 3, none⟩ = some (.int .i64 t.long) ∧ w'.cell? ⟨w.heap.size + 1, 4, none⟩ = some (.slice ta t.back.length tc)
          ∧ w'.cell? ⟨w.heap.size + 1 + 1, 0, none⟩ = some (.int .i64 u.front.piece) ∧ w'.cell? ⟨w.heap.size + 1 + 1, 1, none⟩ = some (.int .i64 u.front.at_) ∧ w'.cell? ⟨w.heap.size + 1 + 1, 2, none⟩ = some (.int .i64 u.front.way) ∧ w'.cell? ⟨w.heap.size + 1 + 1, 3, none⟩ = some (.int .i64 u.long) ∧ w'.cell? ⟨w.heap.size + 1 + 1, 4, none⟩ = some (.slice ua u.back.length uc)) (((try dsimp only); (repeat' apply And.intro)) <;> (go_keep; done))
        (first
          | (go_at_call 24; refine (specTrainOk_T _ _ n t _ (hvv.below (by repeat (first | with_reducible exact Below.refl _ _ | refine Below.setCell ?_ (by first | omega | (simp <;> omega) | (simp [World.setCell] <;> omega)) _ | refine Below.alloc ?_ (by first | omega | (simp <;> omega) | (simp [World.setCell] <;> omega)) _ | refine Below.drew ?_ | refine below_draws ?_ _ | exact Below.refl _ _))) (htt.below (by repeat (first | with_reducible exact Below.refl _ _ | refine Below.setCell ?_ (by first | omega | (simp <;> omega) | (simp [World.setCell] <;> omega)) _ | refine Below.alloc ?_ (by first | omega | (simp <;> omega) | (simp [World.setCell] <;> omega)) _ | refine Below.drew ?_ | refine below_draws ?_ _ | exact Below.refl _ _))) hl hl' hle hnm hbl (unhide HR)).mono ?_; rintro e w1 ⟨rfl, hb1⟩; obtain ⟨hc1, hf1⟩ := bcell hb1; have sz1 := hb1.size; (try simp at sz1); have hbw1 : Below w.heap.size w w1 := (below_then (by repeat (first | with_reducible exact Below.refl _ _ | refine Below.setCell ?_ (by first | omega | (simp <;> omega) | (simp [World.setCell] <;> omega)) _ | refine Below.alloc ?_ (by first | omega | (simp <;> omega) | (simp [World.setCell] <;> omega)) _ | refine Below.drew ?_ | refine below_draws ?_ _ | exact Below.refl _ _)) hb1); have qa0 := hc1 (w.heap.size) (0) (by first | (simp; done) | (simp; omega) | omega); have qa1 := hc1 (w.heap.size) (1) (by first | (simp; done) | (simp; omega) | omega); have qa2 := hc1 (w.heap.size+1) (0) (by first | (simp; done) | (simp; omega) | omega); have qa3 := hc1 (w.heap.size+1) (1) (by first | (simp; done) | (simp; omega) | omega); have qa4 := hc1 (w.heap.size+1) (2) (by first | (simp; done) | (simp; omega) | omega); have qa5 := hc1 (w.heap.size+1) (3) (by first | (simp; done) | (simp; omega) | omega); have qa6 := hc1 (w.heap.size+1) (4) (by first | (simp; done) | (simp; omega) | omega); have qa7 := hc1 (w.heap.size+1+1) (0) (by first | (simp; done) | (simp; omega) | omega); have qa8 := hc1 (w.heap.size+1+1) (1) (by first | (simp; done) | (simp; omega) | omega); have qa9 := hc1 (w.heap.size+1+1) (2) (by first | (simp; done) | (simp; omega) | omega); have qa10 := hc1 (w.heap.size+1+1) (3) (by first | (simp; done) | (simp; omega) | omega); have qa11 := hc1 (w.heap.size+1+1) (4) (by first | (simp; done) | (simp; omega) | omega))
          | (go_at_call 36; refine (l2train_T _ _ n u _ (hvv.below hbw1) (huu.below hbw1) hG hbl' (unhide HF)).mono ?_; rintro e w2 ⟨rfl, hb2⟩; obtain ⟨hc2, hf2⟩ := bcell hb2; have sz2 := hb2.size; have hbw2 := below_then hbw1 hb2; have qb0 := hc2 (w.heap.size) (0) (by first | (have := hb1.size; omega) | (have := hb1.size; simp at this ⊢; omega) | (simp; omega)); have qb1 := hc2 (w.heap.size) (1) (by first | (have := hb1.size; omega) | (have := hb1.size; simp at this ⊢; omega) | (simp; omega)); have qb2 := hc2 (w.heap.size+1) (0) (by first | (have := hb1.size; omega) | (have := hb1.size; simp at this ⊢; omega) | (simp; omega)); have qb3 := hc2 (w.heap.size+1) (1) (by first | (have := hb1.size; omega) | (have := hb1.size; simp at this ⊢; omega) | (simp; omega)); have qb4 := hc2 (w.heap.size+1) (2) (by first | (have := hb1.size; omega) | (have := hb1.size; simp at this ⊢; omega) | (simp; omega)); have qb5 := hc2 (w.heap.size+1) (3) (by first | (have := hb1.size; omega) | (have := hb1.size; simp at this ⊢; omega) | (simp; omega)); have qb6 := hc2 (w.heap.size+1) (4) (by first | (have := hb1.size; omega) | (have := hb1.size; simp at this ⊢; omega) | (simp; omega)); have qb7 := hc2 (w.heap.size+1+1) (0) (by first | (have := hb1.size; omega) | (have := hb1.size; simp at this ⊢; omega) | (simp; omega)); have qb8 := hc2 (w.heap.size+1+1) (1) (by first | (have := hb1.size; omega) | (have := hb1.size; simp at this ⊢; omega) | (simp; omega)); have qb9 := hc2 (w.heap.size+1+1) (2) (by first | (have := hb1.size; omega) | (have := hb1.size; simp at this ⊢; omega) | (simp; omega)); have qb10 := hc2 (w.heap.size+1+1) (3) (by first | (have := hb1.size; omega) | (have := hb1.size; simp at this ⊢; omega) | (simp; omega)); have qb11 := hc2 (w.heap.size+1+1) (4) (by first | (have := hb1.size; omega) | (have := hb1.size; simp at this ⊢; omega) | (simp; omega)))
          | (go_at_call_of 41 (t.long); refine (l2body_b _ _ n t _ (hvv.below hbw2) (htt.below hbw2) hG (unhide HR).2).mono ?_; rintro e w3 ⟨pa, pcap, rfl, hpa, hb3⟩; obtain ⟨hc3, hf3⟩ := bcell hb3; have sz3 := hb3.size; have hbw3 := below_then hbw2 hb3; have qc0 := hc3 (w.heap.size) (0) (by first | (have := hb1.size; have := hb2.size; omega) | (have := hb1.size; have := hb2.size; simp at this ⊢; omega) | (simp; omega)); have qc1 := hc3 (w.heap.size) (1) (by first | (have := hb1.size; have := hb2.size; omega) | (have := hb1.size; have := hb2.size; simp at this ⊢; omega) | (simp; omega)); have qc2 := hc3 (w.heap.size+1) (0) (by first | (have := hb1.size; have := hb2.size; omega) | (have := hb1.size; have := hb2.size; simp at this ⊢; omega) | (simp; omega)); have qc3 := hc3 (w.heap.size+1) (1) (by first | (have := hb1.size; have := hb2.size; omega) | (have := hb1.size; have := hb2.size; simp at this ⊢; omega) | (simp; omega)); have qc4 := hc3 (w.heap.size+1) (2) (by first | (have := hb1.size; have := hb2.size; omega) | (have := hb1.size; have := hb2.size; simp at this ⊢; omega) | (simp; omega)); have qc5 := hc3 (w.heap.size+1) (3) (by first | (have := hb1.size; have := hb2.size; omega) | (have := hb1.size; have := hb2.size; simp at this ⊢; omega) | (simp; omega)); have qc6 := hc3 (w.heap.size+1) (4) (by first | (have := hb1.size; have := hb2.size; omega) | (have := hb1.size; have := hb2.size; simp at this ⊢; omega) | (simp; omega)); have qc7 := hc3 (w.heap.size+1+1) (0) (by first | (have := hb1.size; have := hb2.size; omega) | (have := hb1.size; have := hb2.size; simp at this ⊢; omega) | (simp; omega)); have qc8 := hc3 (w.heap.size+1+1) (1) (by first | (have := hb1.size; have := hb2.size; omega) | (have := hb1.size; have := hb2.size; simp at this ⊢; omega) | (simp; omega)); have qc9 := hc3 (w.heap.size+1+1) (2) (by first | (have := hb1.size; have := hb2.size; omega) | (have := hb1.size; have := hb2.size; simp at this ⊢; omega) | (simp; omega)); have qc10 := hc3 (w.heap.size+1+1) (3) (by first | (have := hb1.size; have := hb2.size; omega) | (have := hb1.size; have := hb2.size; simp at this ⊢; omega) | (simp; omega)); have qc11 := hc3 (w.heap.size+1+1) (4) (by first | (have := hb1.size; have := hb2.size; omega) | (have := hb1.size; have := hb2.size; simp at this ⊢; omega) | (simp; omega)))
          | (go_at_call_of 41 (u.long); refine (l2body_b _ _ n u _ (hvv.below hbw3) (huu.below hbw3) hG (unhide HF)).mono ?_; rintro e w4 ⟨qa_, qcap, rfl, hqa, hb4⟩; obtain ⟨hc4, hf4⟩ := bcell hb4; have sz4 := hb4.size; have hbw4 := below_then hbw3 hb4; have qd0 := hc4 (w.heap.size) (0) (by first | (have := hb1.size; have := hb2.size; have := hb3.size; omega) | (have := hb1.size; have := hb2.size; have := hb3.size; simp at this ⊢; omega) | (simp; omega)); have qd1 := hc4 (w.heap.size) (1) (by first | (have := hb1.size; have := hb2.size; have := hb3.size; omega) | (have := hb1.size; have := hb2.size; have := hb3.size; simp at this ⊢; omega) | (simp; omega)); have qd2 := hc4 (w.heap.size+1) (0) (by first | (have := hb1.size; have := hb2.size; have := hb3.size; omega) | (have := hb1.size; have := hb2.size; have := hb3.size; simp at this ⊢; omega) | (simp; omega)); have qd3 := hc4 (w.heap.size+1) (1) (by first | (have := hb1.size; have := hb2.size; have := hb3.size; omega) | (have := hb1.size; have := hb2.size; have := hb3.size; simp at this ⊢; omega) | (simp; omega)); have qd4 := hc4 (w.heap.size+1) (2) (by first | (have := hb1.size; have := hb2.size; have := hb3.size; omega) | (have := hb1.size; have := hb2.size; have := hb3.size; simp at this ⊢; omega) | (simp; omega)); have qd5 := hc4 (w.heap.size+1) (3) (by first | (have := hb1.size; have := hb2.size; have := hb3.size; omega) | (have := hb1.size; have := hb2.size; have := hb3.size; simp at this ⊢; omega) | (simp; omega)); have qd6 := hc4 (w.heap.size+1) (4) (by first | (have := hb1.size; have := hb2.size; have := hb3.size; omega) | (have := hb1.size; have := hb2.size; have := hb3.size; simp at this ⊢; omega) | (simp; omega)); have qd7 := hc4 (w.heap.size+1+1) (0) (by first | (have := hb1.size; have := hb2.size; have := hb3.size; omega) | (have := hb1.size; have := hb2.size; have := hb3.size; simp at this ⊢; omega) | (simp; omega)); have qd8 := hc4 (w.heap.size+1+1) (1) (by first | (have := hb1.size; have := hb2.size; have := hb3.size; omega) | (have := hb1.size; have := hb2.size; have := hb3.size; simp at this ⊢; omega) | (simp; omega)); have qd9 := hc4 (w.heap.size+1+1) (2) (by first | (have := hb1.size; have := hb2.size; have := hb3.size; omega) | (have := hb1.size; have := hb2.size; have := hb3.size; simp at this ⊢; omega) | (simp; omega)); have qd10 := hc4 (w.heap.size+1+1) (3) (by first | (have := hb1.size; have := hb2.size; have := hb3.size; omega) | (have := hb1.size; have := hb2.size; have := hb3.size; simp at this ⊢; omega) | (simp; omega)); have qd11 := hc4 (w.heap.size+1+1) (4) (by first | (have := hb1.size; have := hb2.size; have := hb3.size; omega) | (have := hb1.size; have := hb2.size; have := hb3.size; simp at this ⊢; omega) | (simp; omega)))
          | (go_at_call 40; refine (l2touch_b _ _ _ _ _ _ _ (hpa.below hb4) hqa (by have := unhide HL1; omega) (by have := unhide HL2; omega)).mono ?_; rintro e w5 ⟨sb, rfl, hsb, hb5⟩; have HSB := hide hsb; clear hsb; obtain ⟨hc5, hf5⟩ := bcell hb5; have hbw5 := below_then hbw4 hb5; have qe0 := hc5 (w.heap.size) (0) (by first | (have := hb1.size; have := hb2.size; have := hb3.size; have := hb4.size; omega) | (have := hb1.size; have := hb2.size; have := hb3.size; have := hb4.size; simp at this ⊢; omega) | (simp; omega)); have qe1 := hc5 (w.heap.size) (1) (by first | (have := hb1.size; have := hb2.size; have := hb3.size; have := hb4.size; omega) | (have := hb1.size; have := hb2.size; have := hb3.size; have := hb4.size; simp at this ⊢; omega) | (simp; omega)); have qe2 := hc5 (w.heap.size+1) (0) (by first | (have := hb1.size; have := hb2.size; have := hb3.size; have := hb4.size; omega) | (have := hb1.size; have := hb2.size; have := hb3.size; have := hb4.size; simp at this ⊢; omega) | (simp; omega)); have qe3 := hc5 (w.heap.size+1) (1) (by first | (have := hb1.size; have := hb2.size; have := hb3.size; have := hb4.size; omega) | (have := hb1.size; have := hb2.size; have := hb3.size; have := hb4.size; simp at this ⊢; omega) | (simp; omega)); have qe4 := hc5 (w.heap.size+1) (2) (by first | (have := hb1.size; have := hb2.size; have := hb3.size; have := hb4.size; omega) | (have := hb1.size; have := hb2.size; have := hb3.size; have := hb4.size; simp at this ⊢; omega) | (simp; omega)); have qe5 := hc5 (w.heap.size+1) (3) (by first | (have := hb1.size; have := hb2.size; have := hb3.size; have := hb4.size; omega) | (have := hb1.size; have := hb2.size; have := hb3.size; have := hb4.size; simp at this ⊢; omega) | (simp; omega)); have qe6 := hc5 (w.heap.size+1) (4) (by first | (have := hb1.size; have := hb2.size; have := hb3.size; have := hb4.size; omega) | (have := hb1.size; have := hb2.size; have := hb3.size; have := hb4.size; simp at this ⊢; omega) | (simp; omega)); have qe7 := hc5 (w.heap.size+1+1) (0) (by first | (have := hb1.size; have := hb2.size; have := hb3.size; have := hb4.size; omega) | (have := hb1.size; have := hb2.size; have := hb3.size; have := hb4.size; simp at this ⊢; omega) | (simp; omega)); have qe8 := hc5 (w.heap.size+1+1) (1) (by first | (have := hb1.size; have := hb2.size; have := hb3.size; have := hb4.size; omega) | (have := hb1.size; have := hb2.size; have := hb3.size; have := hb4.size; simp at this ⊢; omega) | (simp; omega)); have qe9 := hc5 (w.heap.size+1+1) (2) (by first | (have := hb1.size; have := hb2.size; have := hb3.size; have := hb4.size; omega) | (have := hb1.size; have := hb2.size; have := hb3.size; have := hb4.size; simp at this ⊢; omega) | (simp; omega)); have qe10 := hc5 (w.heap.size+1+1) (3) (by first | (have := hb1.size; have := hb2.size; have := hb3.size; have := hb4.size; omega) | (have := hb1.size; have := hb2.size; have := hb3.size; have := hb4.size; simp at this ⊢; omega) | (simp; omega)); have qe11 := hc5 (w.heap.size+1+1) (4) (by first | (have := hb1.size; have := hb2.size; have := hb3.size; have := hb4.size; omega) | (have := hb1.size; have := hb2.size; have := hb3.size; have := hb4.size; simp at this ⊢; omega) | (simp; omega))))
      go_wp2
      go_ret
      exact ⟨sb, rfl, HMP sb HSB, hbw5⟩
    · have HR := hide hR
      have HF := hide hF
      clear hR hF
      have hU := boxedN ((w.alloc (.cells #[.slice x n.pieces.length ca, .slice c n.joints.length cc] 38)).alloc (.cells #[.int .i64 t.front.piece, .int .i64 t.front.at_, .int .i64 t.front.way, .int .i64 t.long, .slice ta t.back.length tc] 42)) #[.int .i64 u.front.piece, .int .i64 u.front.at_, .int .i64 u.front.way, .int .i64 u.long, .slice ua u.back.length uc] 42 (N := w.heap.size + 1 + 1) (by simp)
      have u0 := hU.2.1 0 _ rfl
      have u1 := hU.2.1 1 _ rfl
      have u2 := hU.2.1 2 _ rfl
      have u3 := hU.2.1 3 _ rfl
      have u4 := hU.2.1 4 _ rfl
      go_enter Try.func19, Try.ntmps19
      go_wp2_with fail
      refine wp_region_grown (by kernel_rfl) (by kernel_rfl) (fun hgn hgc => ?_)
      repeat (go_big_quiet_step (first
        | (go_at_call 24; rename_i g; exact g.call (specTrainOk_T _ _ n t _ (hvv.below (below_then (by repeat (first | with_reducible exact Below.refl _ _ | refine Below.setCell ?_ (by first | omega | (simp <;> omega) | (simp [World.setCell] <;> omega)) _ | refine Below.alloc ?_ (by first | omega | (simp <;> omega) | (simp [World.setCell] <;> omega)) _ | refine Below.drew ?_ | refine below_draws ?_ _ | exact Below.refl _ _)) g.below)) (htt.below (below_then (by repeat (first | with_reducible exact Below.refl _ _ | refine Below.setCell ?_ (by first | omega | (simp <;> omega) | (simp [World.setCell] <;> omega)) _ | refine Below.alloc ?_ (by first | omega | (simp <;> omega) | (simp [World.setCell] <;> omega)) _ | refine Below.drew ?_ | refine below_draws ?_ _ | exact Below.refl _ _)) g.below)) hl hl' hle hnm hbl (unhide HR)))
        | (go_at_call 36; rename_i g; exact g.call (l2train_F _ _ n u _ (hvv.below (below_then (by repeat (first | with_reducible exact Below.refl _ _ | refine Below.setCell ?_ (by first | omega | (simp <;> omega) | (simp [World.setCell] <;> omega)) _ | refine Below.alloc ?_ (by first | omega | (simp <;> omega) | (simp [World.setCell] <;> omega)) _ | refine Below.drew ?_ | refine below_draws ?_ _ | exact Below.refl _ _)) g.below)) (huu.below (below_then (by repeat (first | with_reducible exact Below.refl _ _ | refine Below.setCell ?_ (by first | omega | (simp <;> omega) | (simp [World.setCell] <;> omega)) _ | refine Below.alloc ?_ (by first | omega | (simp <;> omega) | (simp [World.setCell] <;> omega)) _ | refine Below.drew ?_ | refine below_draws ?_ _ | exact Below.refl _ _)) g.below)) hG hbl' (unhide HF)))))
      refine wpQuiet_nil ?_
      intro wq hwq
      have hbw2 : Below w.heap.size w wq := by obtain ⟨g, rfl⟩ := hwq; exact below_then (by repeat (first | with_reducible exact Below.refl _ _ | refine Below.setCell ?_ (by first | omega | (simp <;> omega) | (simp [World.setCell] <;> omega)) _ | refine Below.alloc ?_ (by first | omega | (simp <;> omega) | (simp [World.setCell] <;> omega)) _ | refine Below.drew ?_ | refine below_draws ?_ _ | exact Below.refl _ _)) g.below
      clear hwq hgc hgn
      go_wp2
      go_ret
      exact ⟨false, rfl, by simp only [Bool.false_eq_true, false_iff]; exact fun h => unhide HF h.2.1, hbw2⟩
  · have HR := hide hR
    clear hR
    go_enter Try.func19, Try.ntmps19
    go_wp2_with fail
    refine wp_region_grown (by kernel_rfl) (by kernel_rfl) (fun hgn hgc => ?_)
    repeat (go_big_quiet_step (first
      | (go_at_call 24; rename_i g; exact g.call (specTrainOk_F _ _ n t _ (hvv.below (below_then (by repeat (first | with_reducible exact Below.refl _ _ | refine Below.setCell ?_ (by first | omega | (simp <;> omega) | (simp [World.setCell] <;> omega)) _ | refine Below.alloc ?_ (by first | omega | (simp <;> omega) | (simp [World.setCell] <;> omega)) _ | refine Below.drew ?_ | refine below_draws ?_ _ | exact Below.refl _ _)) g.below)) (htt.below (below_then (by repeat (first | with_reducible exact Below.refl _ _ | refine Below.setCell ?_ (by first | omega | (simp <;> omega) | (simp [World.setCell] <;> omega)) _ | refine Below.alloc ?_ (by first | omega | (simp <;> omega) | (simp [World.setCell] <;> omega)) _ | refine Below.drew ?_ | refine below_draws ?_ _ | exact Below.refl _ _)) g.below)) hl hl' hle hnm hbl (unhide HR)))))
    refine wpQuiet_nil ?_
    intro wq hwq
    have hbw1 : Below w.heap.size w wq := by obtain ⟨g, rfl⟩ := hwq; exact below_then (by repeat (first | with_reducible exact Below.refl _ _ | refine Below.setCell ?_ (by first | omega | (simp <;> omega) | (simp [World.setCell] <;> omega)) _ | refine Below.alloc ?_ (by first | omega | (simp <;> omega) | (simp [World.setCell] <;> omega)) _ | refine Below.drew ?_ | refine below_draws ?_ _ | exact Below.refl _ _)) g.below
    clear hwq hgc hgn
    go_wp2
    go_ret
    exact ⟨false, rfl, by simp only [Bool.false_eq_true, false_iff]; exact fun h => unhide HR h.1, hbw1⟩

end Go.Proofs.Ytbdggfpfpjijoab

namespace Go.Proofs.Ytbdggfpfpjijoab
open Go.RowKit

theorem someTouch_b (a b : Option Addr) (ca cb : Nat) (ps qs : List Pt) (w : World) {L L' : Nat} (hp : PtsAt L w a ps) (hq : PtsAt L' w b qs) (hl : ps.length ≤ 1048576) (hl' : qs.length ≤ 1048576) :
    Calls Try.prog 43 #[.slice a ps.length ca, .slice b qs.length cb] w fun e w' => ∃ sb : Bool, e = .returned (.bool sb) ∧ (sb = true ↔ TouchL ps qs) ∧ Below w.heap.size w w' :=
  (someTouch_any a b ca cb ps qs w hp hq hl hl').mono fun e w' ⟨hs, hb⟩ => by
    rcases hs with ⟨rfl, h⟩ | ⟨rfl, h⟩
    · exact ⟨true, rfl, by simp [h], hb⟩
    · exact ⟨false, rfl, by simp [h], hb⟩

theorem ptRow_at0 {w : World} {base : Nat} {a : Option Addr} {m cap : Nat} {ps : List Pt} (h : PtRow w base (.slice a m cap) ps) : PtsAt 0 w a ps := by
  obtain ⟨a', cap', hv, _, hx⟩ := ptRow_at (h.mono (Nat.zero_le _))
  simp at hv
  rw [hv.1]
  exact hx

set_option maxRecDepth 100000 in
set_option maxHeartbeats 4000000 in
theorem implMeet_any (v : Value) (n : Nt) (t u : Tr) (ba ua : Option Addr) (bc uc : Nat) (w : World) {L : Nat} (hv : NetAt L w v n) (hst : StsAt 0 w ba t.back) (hsu : StsAt 0 w ua u.back) (hcap : t.back.length ≤ bc) (hcap' : u.back.length ≤ uc) (hbl : t.back.length ≤ 1048576) (hbl' : u.back.length ≤ 1048576)
    (hl : n.pieces.length ≤ 1048576) (hl' : n.joints.length ≤ 1048576) (hle : ∀ i (h : i < n.joints.length), n.joints[i].name.size ≤ maxLen) (hnm : ∀ i (h : i < n.pieces.length), n.pieces[i].name.size ≤ maxLen) :
    Calls Try.prog 20 #[v, .agg #[.int .i64 t.front.piece, .int .i64 t.front.at_, .int .i64 t.front.way, .int .i64 t.long, .slice ba t.back.length bc], .agg #[.int .i64 u.front.piece, .int .i64 u.front.at_, .int .i64 u.front.way, .int .i64 u.long, .slice ua u.back.length uc]] w fun e w' => RetB (MeetP n t u) e ∧ Below w.heap.size w w' := by
  have hvv := hv
  obtain ⟨a, c, ca, cc, rfl, hp, hj⟩ := hv
  have hzs : Try.zeroCells73.size = 412 := by rw [zero_cells, bodyL_size]
  have HZS := hide hzs
  clear hzs
  go_enter Try.func20, Try.ntmps20
  go_wp2_with fail
  refine (bodyOn_any _ n t ba bc _ (L := L) ?hA ?hB hcap hbl hl hl' hle hnm).mono ?_
  case hA => exact hvv.below (by repeat (first | with_reducible exact Below.refl _ _ | refine Below.setCell ?_ (by first | omega | (simp <;> omega) | (simp [World.setCell] <;> omega)) _ | refine Below.alloc ?_ (by first | omega | (simp <;> omega) | (simp [World.setCell] <;> omega)) _ | refine Below.drew ?_ | refine below_draws ?_ _ | exact Below.refl _ _))
  case hB => exact hst.below (by repeat (first | with_reducible exact Below.refl _ _ | refine Below.setCell ?_ (by first | omega | (simp <;> omega) | (simp [World.setCell] <;> omega)) _ | refine Below.alloc ?_ (by first | omega | (simp <;> omega) | (simp [World.setCell] <;> omega)) _ | refine Below.drew ?_ | refine below_draws ?_ _ | exact Below.refl _ _))
  rintro e w1 ⟨⟨hR, k0, k1, k2, htk, ⟨o0, o1, o2⟩, rfl⟩ | ⟨hR, rfl⟩, hb1⟩
  · have hbw1 : Below w.heap.size w w1 := below_then (by repeat (first | with_reducible exact Below.refl _ _ | refine Below.setCell ?_ (by first | omega | (simp <;> omega) | (simp [World.setCell] <;> omega)) _ | refine Below.alloc ?_ (by first | omega | (simp <;> omega) | (simp [World.setCell] <;> omega)) _ | refine Below.drew ?_ | refine below_draws ?_ _ | exact Below.refl _ _)) hb1
    have hU1 : Boxed w1 (w.heap.size + 1 + 1) [.int .i64 u.front.piece, .int .i64 u.front.at_, .int .i64 u.front.way, .int .i64 u.long, .slice ua u.back.length uc] := (boxedN _ _ _ (by simp)).below hb1
    have hst5 := store_new w1 _ (unhide HZS) _ (bodyL_len k0 k1 k2 t.front t.long (spare n t) t.back) (bodyL_one _ _ _ _ o0 o1 o2)
    have hlB := bodyL_len k0 k1 k2 t.front t.long (spare n t) t.back
    have hA : Below w1.heap.size w1 (w1.alloc (.cells (bodyL k0 k1 k2 t.front t.long (spare n t) t.back).toArray 73)) := (by repeat (first | with_reducible exact Below.refl _ _ | refine Below.setCell ?_ (by first | omega | (simp <;> omega) | (simp [World.setCell] <;> omega)) _ | refine Below.alloc ?_ (by first | omega | (simp <;> omega) | (simp [World.setCell] <;> omega)) _ | refine Below.drew ?_ | refine below_draws ?_ _ | exact Below.refl _ _))
    have hown := own_new w1 k0 k1 k2 t.front t.long (spare n t) t.back 73
    have htk' := htk
    obtain ⟨ka, kca, ksh, kcsh, kst, kcst, hkv, _⟩ := htk'
    simp at hkv
    obtain ⟨rfl, rfl, rfl⟩ := hkv
    have hG := netGood hR.1
    have d3 : (w1.alloc (.cells (bodyL (.slice ka n.pieces.length kca) (.slice ksh n.joints.length kcsh) (.slice kst n.pieces.length kcst) t.front t.long (spare n t) t.back).toArray 73)).cell? ⟨w1.heap.size, 3, none⟩ = some (.slice ka n.pieces.length kca) := by simpa [bodyF] using (hown.2 3 (by omega)).1
    have d4 : (w1.alloc (.cells (bodyL (.slice ka n.pieces.length kca) (.slice ksh n.joints.length kcsh) (.slice kst n.pieces.length kcst) t.front t.long (spare n t) t.back).toArray 73)).cell? ⟨w1.heap.size, 4, none⟩ = some (.slice ksh n.joints.length kcsh) := by simpa [bodyF] using (hown.2 4 (by omega)).1
    have d5 : (w1.alloc (.cells (bodyL (.slice ka n.pieces.length kca) (.slice ksh n.joints.length kcsh) (.slice kst n.pieces.length kcst) t.front t.long (spare n t) t.back).toArray 73)).cell? ⟨w1.heap.size, 5, none⟩ = some (.slice kst n.pieces.length kcst) := by simpa [bodyF] using (hown.2 5 (by omega)).1
    have hU2 := hU1.below hA
    have u0 := hU2.2.1 0 _ rfl
    have u1 := hU2.2.1 1 _ rfl
    have u2 := hU2.2.1 2 _ rfl
    have u3 := hU2.2.1 3 _ rfl
    have u4 := hU2.2.1 4 _ rfl
    have hgb := gb_of hown (by have := hR.2.2.2.1; omega)
    have HR := hide hR
    have HGB := hide hgb
    have HTK := hide (htk.below hA)
    have HSU := hide (hsu.below (below_then hbw1 hA))
    have hbwA := below_then hbw1 hA
    clear hR hown htk hgb
    unfold bodyV
    go_wp2_with fail
    refine (bodyOf_any n u _ _ _ ua uc _ (unhide HTK) hG (unhide HSU) hcap' hbl').mono ?_
    rintro e w2 ⟨⟨hF, rfl⟩ | ⟨hF, rfl⟩, hb2⟩
    · have hbw2 := below_then hbwA hb2
      have hst6 := store_new w2 _ (unhide HZS) _ (bodyL_len (.slice ka n.pieces.length kca) (.slice ksh n.joints.length kcsh) (.slice kst n.pieces.length kcst) u.front u.long (spare n u) u.back) (bodyL_one _ _ _ _ o0 o1 o2)
      have hlB2 := bodyL_len (.slice ka n.pieces.length kca) (.slice ksh n.joints.length kcsh) (.slice kst n.pieces.length kcst) u.front u.long (spare n u) u.back
      have hA2 : Below w2.heap.size w2 (w2.alloc (.cells (bodyL (.slice ka n.pieces.length kca) (.slice ksh n.joints.length kcsh) (.slice kst n.pieces.length kcst) u.front u.long (spare n u) u.back).toArray 73)) := (by repeat (first | with_reducible exact Below.refl _ _ | refine Below.setCell ?_ (by first | omega | (simp <;> omega) | (simp [World.setCell] <;> omega)) _ | refine Below.alloc ?_ (by first | omega | (simp <;> omega) | (simp [World.setCell] <;> omega)) _ | refine Below.drew ?_ | refine below_draws ?_ _ | exact Below.refl _ _))
      have hown2 := own_new w2 (.slice ka n.pieces.length kca) (.slice ksh n.joints.length kcsh) (.slice kst n.pieces.length kcst) u.front u.long (spare n u) u.back 73
      have hgb2 := gb_of hown2 (by have := hF.2.2.1; omega)
      have hgb1 := ((unhide HGB).below hb2).below hA2
      have htk2 := ((unhide HTK).below hb2).below hA2
      have HG2 := hide hgb2
      have HG1 := hide hgb1
      have HT2 := hide htk2
      have HF := hide hF
      have hbwA2 := below_then hbw2 hA2
      clear hgb2 hgb1 htk2 hown2 hF d3 d4 d5 u0 u1 u2 u3 u4 HGB HTK HSU hst5
      unfold bodyV
      go_wp2_with fail
      refine (parts_any w1.heap.size n ka ksh kst kca kcsh kcst t.front t.long (spare n t) t.back _ (unhide HG1) (unhide HT2) hG (unhide HR).2.1 (backOk_steps (unhide HR).2.2.2.2) (unhide HR).2.2.2.1 (fits_spare hG (unhide HR).2)).mono ?_
      rintro e w3 ⟨pa, pcap, rfl, hrow, hb3⟩
      have hpa := ptRow_at0 hrow
      have HPA := hide hpa
      clear hpa hrow
      go_wp2_with fail
      refine (parts_any w2.heap.size n ka ksh kst kca kcsh kcst u.front u.long (spare n u) u.back _ ((unhide HG2).below hb3) ((unhide HT2).below hb3) hG (unhide HF).1 (backOk_steps (unhide HF).2.2.2) (unhide HF).2.2.1 (fits_spare hG (unhide HF))).mono ?_
      rintro e w4 ⟨qa, qcap, rfl, hrow, hb4⟩
      have hqa := ptRow_at0 hrow
      have HQA := hide hqa
      clear hqa hrow
      go_wp2_with fail
      refine (someTouch_b _ _ _ _ _ _ _ ((unhide HPA).below hb4) (unhide HQA) (by have := partsB_len n t.front (spare n t) t.back; have := (unhide HR).2.2.2.1; omega) (by have := partsB_len n u.front (spare n u) u.back; have := (unhide HF).2.2.1; omega)).mono ?_
      rintro e w5 ⟨sb, rfl, hsb, hb5⟩
      have HSB : Hid (sb = true ↔ MeetP n t u) := by
        rw [← bodyParts_eq hG (unhide HR).2, ← bodyParts_eq hG (unhide HF)] at hsb
        exact hsb.trans ⟨fun g => ⟨unhide HR, unhide HF, g⟩, fun g => g.2.2⟩
      clear hsb
      go_wp2
      go_ret
      exact ⟨retB_of (unhide HSB), below_then (below_then (below_then hbwA2 hb3) hb4) hb5⟩
    · have hbw2 := below_then hbwA hb2
      have hst6 := store_new w2 _ (unhide HZS) _ (bodyL_len (.slice none 0 0) (.slice none 0 0) (.slice none 0 0) ⟨0, 0, 0⟩ 0 0 []) (bodyL_one _ _ _ _ rfl rfl rfl)
      have hlB2 := bodyL_len (.slice none 0 0) (.slice none 0 0) (.slice none 0 0) ⟨0, 0, 0⟩ 0 0 []
      have HF := hide hF
      clear hF d3 d4 d5 u0 u1 u2 u3 u4 hst5
      unfold zeroBody bodyV
      go_wp2
      go_ret
      exact ⟨retB_false fun h => unhide HF h.2.1, below_then hbw2 (by repeat (first | with_reducible exact Below.refl _ _ | refine Below.setCell ?_ (by first | omega | (simp <;> omega) | (simp [World.setCell] <;> omega)) _ | refine Below.alloc ?_ (by first | omega | (simp <;> omega) | (simp [World.setCell] <;> omega)) _ | refine Below.drew ?_ | refine below_draws ?_ _ | exact Below.refl _ _))⟩
  · have hbw1 : Below w.heap.size w w1 := below_then (by repeat (first | with_reducible exact Below.refl _ _ | refine Below.setCell ?_ (by first | omega | (simp <;> omega) | (simp [World.setCell] <;> omega)) _ | refine Below.alloc ?_ (by first | omega | (simp <;> omega) | (simp [World.setCell] <;> omega)) _ | refine Below.drew ?_ | refine below_draws ?_ _ | exact Below.refl _ _)) hb1
    have hst5 := store_new w1 _ (unhide HZS) _ (bodyL_len (.slice none 0 0) (.slice none 0 0) (.slice none 0 0) ⟨0, 0, 0⟩ 0 0 []) (bodyL_one _ _ _ _ rfl rfl rfl)
    have hlB := bodyL_len (.slice none 0 0) (.slice none 0 0) (.slice none 0 0) ⟨0, 0, 0⟩ 0 0 []
    have HR := hide hR
    clear hR
    unfold zeroBody bodyV
    go_wp2
    go_ret
    exact ⟨retB_false fun h => unhide HR h.1, below_then hbw1 (by repeat (first | with_reducible exact Below.refl _ _ | refine Below.setCell ?_ (by first | omega | (simp <;> omega) | (simp [World.setCell] <;> omega)) _ | refine Below.alloc ?_ (by first | omega | (simp <;> omega) | (simp [World.setCell] <;> omega)) _ | refine Below.drew ?_ | refine below_draws ?_ _ | exact Below.refl _ _))⟩

end Go.Proofs.Ytbdggfpfpjijoab

