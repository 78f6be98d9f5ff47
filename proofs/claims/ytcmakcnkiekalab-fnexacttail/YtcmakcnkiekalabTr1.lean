import Derived.Test.YtcmakcnkiekalabMarks3
import Derived.Test.YtcmakcnkiekalabLies1
import Derived.Test.YtcmakcnkiekalabPlain2
namespace Go.Proofs.Ytcmakcnkiekalab
open Go.RowKit

def StsAt (L : Nat) (w : World) (a : Option Addr) (es : List St) : Prop :=
  ∀ i (h : i < es.length), ∃ b off, a = some ⟨b, off, none⟩ ∧ (L ≤ b ∧ b < w.heap.size) ∧ w.cell? ⟨b, off + i * 2, none⟩ = some (.int .i64 es[i].piece) ∧ w.cell? ⟨b, off + i * 2 + 1, none⟩ = some (.int .i64 es[i].way)

theorem StsAt.keeps {L : Nat} {w w' : World} {a : Option Addr} {es : List St} (h : StsAt L w a es) (hk : Keeps L w w') : StsAt L w' a es := by
  intro i hi
  obtain ⟨b, off, ha, hlt, c0, c1⟩ := h i hi
  exact ⟨b, off, ha, ⟨hlt.1, Nat.lt_of_lt_of_le hlt.2 hk.1⟩, by rw [hk.cell hlt]; exact c0, by rw [hk.cell hlt]; exact c1⟩

theorem StsAt.below {L : Nat} {w w' : World} {a : Option Addr} {es : List St} (h : StsAt L w a es) (hb : Below w.heap.size w w') : StsAt L w' a es := h.keeps (keeps_below L hb)

theorem StsAt.mono {L L' : Nat} {w : World} {a : Option Addr} {es : List St} (h : StsAt L w a es) (hL : L' ≤ L) : StsAt L' w a es := by
  intro i hi
  obtain ⟨b, off, ha, hlt, r⟩ := h i hi
  exact ⟨b, off, ha, ⟨Nat.le_trans hL hlt.1, hlt.2⟩, r⟩

def rowSt (es : List St) (f : Nat → Value) (k : Nat) : Prop :=
  ∀ i (h : i < es.length), i < k → f (i * 2) = .int .i64 es[i].piece ∧ f (i * 2 + 1) = .int .i64 es[i].way

def StsOwn (L U : Nat) (w : World) (a : Option Addr) (es : List St) : Prop :=
  ∃ b f, a = some ⟨b, 0, none⟩ ∧ (L ≤ b ∧ b < U) ∧ w.rowIs b 93 (es.length * 2) f ∧ rowSt es f es.length

theorem StsOwn.at {L U : Nat} {w : World} {a : Option Addr} {es : List St} (h : StsOwn L U w a es) : StsAt L w a es := by
  obtain ⟨b, f, rfl, hb, hrow, hf⟩ := h
  intro i hi
  obtain ⟨e0, e1⟩ := hf i hi hi
  refine ⟨b, 0, rfl, ⟨hb.1, hrow.lt⟩, ?_, ?_⟩
  · rw [← e0, hrow.cell (by omega)]; simp
  · rw [← e1, hrow.cell (by omega)]; simp

theorem StsOwn.stays {L U : Nat} {w w' : World} {a : Option Addr} {es : List St} (h : StsOwn L U w a es) (hk : Stays L U w w') : StsOwn L U w' a es := by
  obtain ⟨b, f, ha, hb, hrow, hf⟩ := h
  exact ⟨b, f, ha, hb, hrow.of_block (hk b hb.1 hb.2), hf⟩

theorem StsOwn.mono {L U L' U' : Nat} {w : World} {a : Option Addr} {es : List St} (h : StsOwn L U w a es) (hL : L' ≤ L) (hU : U ≤ U') : StsOwn L' U' w a es := by
  obtain ⟨b, f, ha, hb, r⟩ := h
  exact ⟨b, f, ha, ⟨by omega, by omega⟩, r⟩

set_option maxHeartbeats 400000 in
theorem toStep_any (p s : Int) (w : World) :
    Calls Try.prog 87 #[.agg #[.int .i64 p, .int .i64 s]] w fun e w' =>
      e = .returned (.agg #[.int .i64 p, .int .i64 s]) ∧ Below w.heap.size w w' := by
  go_enter Try.func87, Try.ntmps87
  go_wp2
  exact bodyPost_ret (v := .agg #[.int .i64 p, .int .i64 s]) (by simp [results, Try.results87, go_sem]) rfl ⟨rfl, by
    repeat (first | exact Below.refl _ _ | refine Below.setCell ?_ (by simp <;> omega) _ | refine Below.alloc ?_ (by simp <;> omega) _)⟩

theorem info_Step : (Try.prog.info? 93).map (fun i => (i.zero, i.size, i.bytes)) = some (some (.agg #[.int .i64 0, .int .i64 0]), 2, 16) := by kernel_rfl

set_option maxHeartbeats 400000 in
theorem toStepS_own (a : Option Addr) (es : List St) (cap : Nat) (w : World) (hl : es.length ≤ 1048576) {L : Nat} (hp : StsAt L w a es) :
    Calls Try.prog 52 #[.slice a es.length cap] w fun e w' =>
      ∃ a', e = .returned (.slice a' es.length es.length) ∧ StsOwn w.heap.size w'.heap.size w' a' es ∧ Below w.heap.size w w' := by
  have hmk := run_make_rows (P := Try.prog) 40 93 _ 2 16 (by kernel_rfl) info_Step es.length (by omega) hl
  go_enter Try.func52, Try.ntmps52
  go_wp2
  go_loopw [4] (fun i wr => ∃ (k : Nat) (f : Nat → Value), k ≤ es.length ∧ i = .int .i64 k ∧ wr.rowIs w.heap.size 93 (es.length * 2) f ∧ rowSt es f k ∧ Below w.heap.size w wr) (fun i _ => es.length - (intOf i).toNat)
  case atStart => exact ⟨0, _, Nat.zero_le _, rfl, row_made _ _ _ _, fun i h h' => by omega, (Below.refl _ _).alloc (Nat.le_refl _) _⟩
  case round =>
    obtain ⟨k, f, hk, rfl, hrow, hf, hb⟩ := hrel
    clear hmk
    by_cases hlt : k < es.length
    · obtain ⟨b, off, rfl, hbs, c0, c1⟩ := hp.below hb k hlt
      go_wp2_with fail
      refine (toStep_any _ _ _).mono ?_
      rintro e w1 ⟨rfl, hb1⟩
      have hrow1 := hrow.of_block (hb1.block _ hrow.lt)
      have z0 := hrow1.frozen (k * 2)
      have z1 := hrow1.frozen (k * 2 + 1)
      have y0 := hrow1.cell (i := k * 2) (by omega)
      have y1 := hrow1.cell (i := k * 2 + 1) (by omega)
      have HR := hide hrow1
      clear hrow1
      go_wp2
      go_roundw
      case rel =>
        refine ⟨k + 1, _, by omega, by go_num, ((unhide HR).set _ _).set _ _, ?_, ?_⟩
        · intro i h h'
          by_cases e : i = k
          · subst e
            simp
          · have := hf i h (by omega)
            refine ⟨?_, ?_⟩ <;> dsimp only <;> (repeat rw [if_neg (by omega)])
            · exact this.1
            · exact this.2
        · have := below_then hb hb1
          repeat (first | exact this | refine Below.setCell ?_ (by simp <;> omega) _)
      case measure => simp [intOf]; omega
    · obtain rfl : k = es.length := by omega
      go_wp2
      go_ret
      exact ⟨_, rfl, ⟨_, f, rfl, ⟨Nat.le_refl _, hrow.lt⟩, hrow, hf⟩, hb⟩

set_option maxHeartbeats 400000 in
theorem eqStep_any (p s : Int) (w : World) :
    Calls Try.prog 92 #[.agg #[.int .i64 p, .int .i64 s], .agg #[.int .i64 p, .int .i64 s]] w fun e w' =>
      e = .returned (.bool true) ∧ Below w.heap.size w w' := by
  go_enter Try.func92, Try.ntmps92
  go_wp2
  go_ret
  exact ⟨rfl, (by repeat (first | with_reducible exact Below.refl _ _ | refine Below.setCell ?_ (by first | omega | (simp <;> omega) | (simp [World.setCell] <;> omega)) _ | refine Below.alloc ?_ (by first | omega | (simp <;> omega) | (simp [World.setCell] <;> omega)) _ | refine Below.drew ?_ | refine below_draws ?_ _ | exact Below.refl _ _))⟩

set_option maxHeartbeats 1000000 in
theorem eqStepS_any (a c : Option Addr) (es : List St) (ca cc : Nat) (w : World) {L L' : Nat} (hl : es.length ≤ 1048576) (hp : StsAt L w a es) (hq : StsAt L' w c es) :
    Calls Try.prog 57 #[.slice a es.length ca, .slice c es.length cc] w fun e w' =>
      e = .returned (.bool true) ∧ Below w.heap.size w w' := by
  go_enter Try.func57, Try.ntmps57
  go_wp2
  go_loopw [5] (fun i wr => ∃ (k : Nat), k ≤ es.length ∧ i = .int .i64 k ∧ Below w.heap.size w wr) (fun i _ => es.length - (intOf i).toNat)
  case atStart => exact ⟨0, Nat.zero_le _, rfl, Below.refl _ _⟩
  case round =>
    obtain ⟨k, hk, rfl, hb⟩ := hrel
    by_cases hlt : k < es.length
    · obtain ⟨b, off, rfl, hbs, c0, c1⟩ := hp.below hb k hlt
      obtain ⟨b', off', rfl, hbs', c0', c1'⟩ := hq.below hb k hlt
      go_wp2_with fail
      go_region_with (go_at_call 92; refine (eqStep_any _ _ _).mono ?_; rintro e w1 ⟨rfl, hb1⟩)
      all_goals go_wp2
      all_goals exact ⟨⟨k + 1, by omega, by go_num, below_then hb.drew hb1⟩, by simp [intOf]; omega⟩
    · go_wp2
      go_ret
      exact ⟨rfl, hb⟩

set_option maxHeartbeats 400000 in
theorem szStepS_any (a : Option Addr) (n cap : Nat) (left : Int) (w : World) (h0 : 0 ≤ left) (h1 : left ≤ 1048576) (hl : n ≤ maxLen) :
    Calls Try.prog 46 #[.slice a n cap, .int .i64 left] w fun e w' =>
      ∃ r : Int, e = .returned (.int .i64 r) ∧ r ≤ left ∧ (0 ≤ r → n ≤ left) ∧ Below w.heap.size w w' := by
  unfold maxLen at hl
  by_cases h : left - n < 0
  · go_enter Try.func46, Try.ntmps46
    go_wp2
    go_ret
    exact ⟨-1, rfl, by omega, by omega, (Below.refl _ _)⟩
  · go_enter Try.func46, Try.ntmps46
    go_wp2
    go_ret
    exact ⟨left - n, rfl, by omega, by omega, (Below.refl _ _)⟩


/-- A train in memory, as a value. -/
def TrAt (L : Nat) (w : World) (v : Value) (t : Tr) : Prop :=
  ∃ a cap, v = .agg #[.int .i64 t.front.piece, .int .i64 t.front.at_, .int .i64 t.front.way, .int .i64 t.long, .slice a t.back.length cap] ∧ StsAt L w a t.back
def TrOwn (L U : Nat) (w : World) (v : Value) (t : Tr) : Prop :=
  ∃ a, v = .agg #[.int .i64 t.front.piece, .int .i64 t.front.at_, .int .i64 t.front.way, .int .i64 t.long, .slice a t.back.length t.back.length] ∧ StsOwn L U w a t.back
theorem TrAt.keeps {L : Nat} {w w' : World} {v : Value} {t : Tr} (h : TrAt L w v t) (hk : Keeps L w w') : TrAt L w' v t := by
  obtain ⟨a, cap, hv, hs⟩ := h
  exact ⟨a, cap, hv, hs.keeps hk⟩
theorem TrAt.below {L : Nat} {w w' : World} {v : Value} {t : Tr} (h : TrAt L w v t) (hb : Below w.heap.size w w') : TrAt L w' v t := h.keeps (keeps_below L hb)
theorem TrOwn.at {L U : Nat} {w : World} {v : Value} {t : Tr} (h : TrOwn L U w v t) : TrAt L w v t := by
  obtain ⟨a, hv, hs⟩ := h
  exact ⟨a, _, hv, hs.at⟩
theorem TrOwn.stays {L U : Nat} {w w' : World} {v : Value} {t : Tr} (h : TrOwn L U w v t) (hk : Stays L U w w') : TrOwn L U w' v t := by
  obtain ⟨a, hv, hs⟩ := h
  exact ⟨a, hv, hs.stays hk⟩

set_option maxHeartbeats 400000 in
theorem toSpot_any (p a y : Int) (w : World) :
    Calls Try.prog 51 #[.agg #[.int .i64 p, .int .i64 a, .int .i64 y]] w fun e w' =>
      e = .returned (.agg #[.int .i64 p, .int .i64 a, .int .i64 y]) ∧ Below w.heap.size w w' := by
  go_enter Try.func51, Try.ntmps51
  go_wp2
  exact bodyPost_ret (v := .agg #[.int .i64 p, .int .i64 a, .int .i64 y]) (by simp [results, Try.results51, go_sem]) rfl ⟨rfl, (by repeat (first | with_reducible exact Below.refl _ _ | refine Below.setCell ?_ (by first | omega | (simp <;> omega) | (simp [World.setCell] <;> omega)) _ | refine Below.alloc ?_ (by first | omega | (simp <;> omega) | (simp [World.setCell] <;> omega)) _ | refine Below.drew ?_ | refine below_draws ?_ _ | exact Below.refl _ _))⟩

set_option maxHeartbeats 400000 in
theorem eqSpot_any (p a y : Int) (w : World) :
    Calls Try.prog 15 #[.agg #[.int .i64 p, .int .i64 a, .int .i64 y], .agg #[.int .i64 p, .int .i64 a, .int .i64 y]] w fun e w' =>
      e = .returned (.bool true) ∧ Below w.heap.size w w' := by
  go_enter Try.func15, Try.ntmps15
  go_wp2
  go_ret
  exact ⟨rfl, (by repeat (first | with_reducible exact Below.refl _ _ | refine Below.setCell ?_ (by first | omega | (simp <;> omega) | (simp [World.setCell] <;> omega)) _ | refine Below.alloc ?_ (by first | omega | (simp <;> omega) | (simp [World.setCell] <;> omega)) _ | refine Below.drew ?_ | refine below_draws ?_ _ | exact Below.refl _ _))⟩

set_option maxHeartbeats 400000 in
theorem szTrain_any (v : Value) (t : Tr) (left : Int) (w : World) (h0 : 0 ≤ left) (h1 : left ≤ 1048576) {L : Nat} (hv : TrAt L w v t) (hl : t.back.length ≤ maxLen) :
    Calls Try.prog 10 #[v, .int .i64 left] w fun e w' =>
      ∃ r : Int, e = .returned (.int .i64 r) ∧ r ≤ left ∧ (0 ≤ r → t.back.length ≤ left) ∧ Below w.heap.size w w' := by
  obtain ⟨a, cap, rfl, hs⟩ := hv
  go_enter Try.func10, Try.ntmps10
  go_wp2_with fail
  refine (szStepS_any _ _ _ _ _ h0 h1 hl).mono ?_
  rintro e w' ⟨r', rfl, hr', hn', hb'⟩
  have hb : Below w.heap.size w w' := ((Below.refl _ _).alloc (Nat.le_refl _) _).trans (hb'.mono (by simp))
  by_cases hneg : r' < 0
  · go_wp2
    go_ret
    exact ⟨-1, rfl, by omega, by omega, hb⟩
  · go_wp2
    go_ret
    exact ⟨r', rfl, by omega, fun h => by have := hn' h; omega, hb⟩

set_option maxHeartbeats 1000000 in
theorem toTrain_own (v : Value) (t : Tr) (w : World) {L : Nat} (hv : TrAt L w v t) (hl : t.back.length ≤ 1048576) :
    Calls Try.prog 13 #[v] w fun e w' =>
      ∃ v', e = .returned v' ∧ TrOwn w.heap.size w'.heap.size w' v' t ∧ Below w.heap.size w w' := by
  obtain ⟨a, cap, rfl, hs⟩ := hv
  go_enter Try.func13, Try.ntmps13
  go_wp2_with fail
  refine (toSpot_any _ _ _ _).mono ?_
  rintro e w1 ⟨rfl, hb1⟩
  have hbw := Below.trans ((by repeat (first | with_reducible exact Below.refl _ _ | refine Below.setCell ?_ (by first | omega | (simp <;> omega) | (simp [World.setCell] <;> omega)) _ | refine Below.alloc ?_ (by first | omega | (simp <;> omega) | (simp [World.setCell] <;> omega)) _ | refine Below.drew ?_ | refine below_draws ?_ _ | exact Below.refl _ _)) : Below w.heap.size w _) (hb1.mono (by simp <;> omega))
  obtain ⟨hc, hf⟩ := bcell hb1
  have hz := hb1.size
  simp at hz
  go_wp2_with fail
  refine (toStepS_own a t.back cap _ hl (L := L) ?hA).mono ?_
  case hA => exact hs.below (by repeat (first | with_reducible exact Below.refl _ _ | with_reducible exact hbw | refine Below.setCell ?_ (by first | omega | (simp <;> omega) | (simp [World.setCell] <;> omega)) _ | refine Below.alloc ?_ (by first | omega | (simp <;> omega) | (simp [World.setCell] <;> omega)) _ | refine Below.drew ?_ | refine below_draws ?_ _ | exact hbw | exact Below.refl _ _))
  rintro e w2 ⟨a2, rfl, he2, hb2⟩
  have hbw2 := Below.trans ((by repeat (first | with_reducible exact Below.refl _ _ | with_reducible exact hbw | refine Below.setCell ?_ (by first | omega | (simp <;> omega) | (simp [World.setCell] <;> omega)) _ | refine Below.alloc ?_ (by first | omega | (simp <;> omega) | (simp [World.setCell] <;> omega)) _ | refine Below.drew ?_ | refine below_draws ?_ _ | exact hbw | exact Below.refl _ _)) : Below w.heap.size w _) (hb2.mono (by simp [World.setCell] <;> omega))
  obtain ⟨hc2, hf2⟩ := bcellN (w.heap.size + 3) hb2 (by simp [World.setCell]; omega)
  have hz2 := hb2.size
  simp [World.setCell] at hz2 he2
  go_wp2
  refine bodyPost_ret (v := .agg #[.int .i64 t.front.piece, .int .i64 t.front.at_, .int .i64 t.front.way, .int .i64 t.long, .slice a2 t.back.length t.back.length]) (by simp [results, Try.results13, go_sem, hc, hc2]) rfl
    ⟨_, rfl, ⟨_, rfl, (he2.stays ?_).mono (by omega) (by simp [World.setCell])⟩, (by repeat (first | with_reducible exact Below.refl _ _ | with_reducible exact hbw2 | refine Below.setCell ?_ (by first | omega | (simp <;> omega) | (simp [World.setCell] <;> omega)) _ | refine Below.alloc ?_ (by first | omega | (simp <;> omega) | (simp [World.setCell] <;> omega)) _ | refine Below.drew ?_ | refine below_draws ?_ _ | exact hbw2 | exact Below.refl _ _))⟩
  repeat (refine Stays.trans ?_ (stays_setCell _ (by first | (simp; omega) | simp) _))
  exact fun _ _ _ => rfl

set_option maxHeartbeats 1000000 in
theorem eqTrain_any (v v' : Value) (t : Tr) (w : World) {L L' : Nat} (hl : t.back.length ≤ 1048576) (hp : TrAt L w v t) (hq : TrAt L' w v' t) :
    Calls Try.prog 17 #[v, v'] w fun e w' =>
      e = .returned (.bool true) ∧ Below w.heap.size w w' := by
  obtain ⟨a, ca, rfl, ha⟩ := hp
  obtain ⟨c, cc, rfl, hc'⟩ := hq
  go_enter Try.func17, Try.ntmps17
  go_wp2_with fail
  refine (eqSpot_any _ _ _ _).mono ?_
  rintro e w1 ⟨rfl, hb1⟩
  have hbw := Below.trans ((by repeat (first | with_reducible exact Below.refl _ _ | refine Below.setCell ?_ (by first | omega | (simp <;> omega) | (simp [World.setCell] <;> omega)) _ | refine Below.alloc ?_ (by first | omega | (simp <;> omega) | (simp [World.setCell] <;> omega)) _ | refine Below.drew ?_ | refine below_draws ?_ _ | exact Below.refl _ _)) : Below w.heap.size w _) (hb1.mono (by simp <;> omega))
  obtain ⟨hc, hf⟩ := bcell hb1
  have hz := hb1.size
  simp at hz
  go_wp2_with fail
  refine (eqStepS_any a c t.back ca cc _ hl (ha.below hbw) (hc'.below hbw)).mono ?_
  rintro e w2 ⟨rfl, hb2⟩
  go_wp2
  go_ret
  exact ⟨rfl, below_then hbw hb2⟩

end Go.Proofs.Ytcmakcnkiekalab
