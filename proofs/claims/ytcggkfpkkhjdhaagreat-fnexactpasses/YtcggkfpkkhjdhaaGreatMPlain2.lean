import Derived.Test.YtcggkfpkkhjdhaaGreatMPlain
import Derived.Test.YtcggkfpkkhjdhaaGreatMTo
import Derived.Test.YtcggkfpkkhjdhaaGreatMEq
import Derived.Test.YtcggkfpkkhjdhaaGreatMRead
import Derived.BigQuiet
import Derived.Deep.RegionWith
namespace Go.Proofs.YtcggkfpkkhjdhaaGreat

/-- Steps, spots, trains, parts. -/
structure St where
  piece : Int
  way : Int

structure Sp where
  piece : Int
  at_ : Int
  way : Int

structure Tr where
  front : Sp
  long : Int
  back : List St

structure Pt where
  piece : Int
  fr : Int
  to : Int

def inB (x a b : Int) : Bool := decide (a ≤ x ∧ x ≤ b)
theorem inB_true {x a b : Int} (h : a ≤ x ∧ x ≤ b) : inB x a b = true := by simp [inB, h]
theorem inB_false {x a b : Int} (h : ¬ (a ≤ x ∧ x ≤ b)) : inB x a b = false := by simp [inB]; omega

/-- The length of a piece; the end of a piece to which one looks. -/
def lenOf (n : Nt) (p : Int) : Int := (n.pieces[p.toNat]?.map Pc.len).getD 0
def hd (p way : Int) : Ed := ⟨p, if way = 1 then 1 else 0⟩

def SpotOk (n : Nt) (s : Sp) : Prop := (0 ≤ s.piece ∧ s.piece < n.pieces.length) ∧ (s.way = 1 ∨ s.way = -1) ∧ (0 ≤ s.at_ ∧ s.at_ ≤ lenOf n s.piece)
def room (n : Nt) (s : Sp) : Int := if s.way = 1 then lenOf n s.piece - s.at_ else s.at_
def behind (n : Nt) (s : Sp) : Int := lenOf n s.piece - room n s

/-- An end stands at place k of joint i. -/
def StandsAt (js : List Jt) (e : Ed) (i k : Nat) : Prop := ∃ (h : i < js.length) (h' : k < js[i].ends.length), js[i].ends[k] = e

def endOf (j : Jt) (k : Nat) : Ed := j.ends.getD k ⟨0, 0⟩

/-- The ends to which one can come over a joint, from its place k. -/
def across (j : Jt) (k : Nat) : List Ed :=
  if j.kind = 2 then [endOf j (1 - k)]
  else if j.kind = 3 then (if k = 0 then [endOf j 1, endOf j 2] else [endOf j 0])
  else if j.kind = 4 then [endOf j (if k = 0 then 1 else if k = 1 then 0 else if k = 2 then 3 else 2)]
  else []

def Joined (n : Nt) (a b : St) : Prop := ∃ i k, ∃ h : i < n.joints.length, StandsAt n.joints (hd a.piece a.way) i k ∧ hd b.piece (-b.way) ∈ across n.joints[i] k

def StepOk (n : Nt) (s : St) : Prop := (0 ≤ s.piece ∧ s.piece < n.pieces.length) ∧ (s.way = 1 ∨ s.way = -1)

/-- What the pieces of Back must be, the nearest first. -/
def BackOk (n : Nt) (long : Int) : Int → St → List St → Prop
  | have_, _, [] => long ≤ have_
  | have_, ahead, s :: r => StepOk n s ∧ have_ < long ∧ Joined n s ahead ∧ BackOk n long (have_ + lenOf n s.piece) s r

def TrainFits (n : Nt) (t : Tr) : Prop :=
  SpotOk n t.front ∧ (1 ≤ t.long ∧ t.long ≤ 100000) ∧ t.back.length ≤ 200 ∧ BackOk n t.long (behind n t.front) ⟨t.front.piece, t.front.way⟩ t.back
def TrainRight (n : Nt) (t : Tr) : Prop := NetRes n 0 0 ∧ TrainFits n t

/-! ### An end of a right net stands just once -/

theorem usesIn_pos {es : List Ed} {e : Ed} {k : Nat} (h : k < es.length) (he : es[k] = e) : 1 ≤ usesIn es e.piece e.side := by
  unfold usesIn
  apply List.one_le_countP_iff.2
  exact ⟨es[k], List.getElem_mem h, by rw [he]; simp [isEd]⟩

theorem usesIn_two {es : List Ed} {e : Ed} {k k' : Nat} (h : k < es.length) (h' : k' < es.length) (he : es[k] = e) (he' : es[k'] = e) (hne : k < k') : 2 ≤ usesIn es e.piece e.side := by
  have h1 : usesIn es e.piece e.side = usesIn (es.take k') e.piece e.side + usesIn (es.drop k') e.piece e.side := by
    unfold usesIn
    rw [← List.countP_append, List.take_append_drop]
  have h2 : 1 ≤ usesIn (es.take k') e.piece e.side := usesIn_pos (k := k) (by simp; omega) (by simpa using he)
  have h3 : 1 ≤ usesIn (es.drop k') e.piece e.side := usesIn_pos (k := 0) (by simp; omega) (by simpa using he')
  omega

theorem uses_ge {js : List Jt} {p s : Int} {i : Nat} (h : i < js.length) : usesIn js[i].ends p s ≤ uses js p s := by
  induction js generalizing i with
  | nil => simp at h
  | cons j r ih =>
    cases i with
    | zero => simp [uses]
    | succ i =>
      have := ih (i := i) (by simpa using h)
      simp [uses] at this ⊢
      omega

theorem uses_two {js : List Jt} {p s : Int} {i i' : Nat} (h : i < js.length) (h' : i' < js.length) (hne : i < i') : usesIn js[i].ends p s + usesIn js[i'].ends p s ≤ uses js p s := by
  induction js generalizing i i' with
  | nil => simp at h
  | cons j r ih =>
    cases i with
    | zero =>
      cases i' with
      | zero => omega
      | succ i' =>
        have := uses_ge (js := r) (p := p) (s := s) (i := i') (by simpa using h')
        simp [uses] at this ⊢
        omega
    | succ i =>
      cases i' with
      | zero => omega
      | succ i' =>
        have := ih (i := i) (i' := i') (by simpa using h) (by simpa using h') (by omega)
        simp [uses] at this ⊢
        omega

theorem stands_unique {js : List Jt} {e : Ed} (hu : uses js e.piece e.side = 1) {i k i' k' : Nat} (h : StandsAt js e i k) (g : StandsAt js e i' k') : i = i' ∧ k = k' := by
  obtain ⟨hi, hk, he⟩ := h
  obtain ⟨gi, gk, ge⟩ := g
  have h1 := usesIn_pos hk he
  have h2 := usesIn_pos gk ge
  rcases Nat.lt_trichotomy i i' with hlt | rfl | hgt
  · have := uses_two (p := e.piece) (s := e.side) hi gi hlt; omega
  · rcases Nat.lt_trichotomy k k' with klt | rfl | kgt
    · have := usesIn_two hk gk he ge klt; have := uses_ge (p := e.piece) (s := e.side) hi; omega
    · exact ⟨rfl, rfl⟩
    · have := usesIn_two gk hk ge he kgt; have := uses_ge (p := e.piece) (s := e.side) hi; omega
  · have := uses_two (p := e.piece) (s := e.side) gi hi hgt; omega

theorem stands_some {js : List Jt} {e : Ed} (hu : uses js e.piece e.side = 1) : ∃ i k, StandsAt js e i k := by
  induction js with
  | nil => simp [uses] at hu
  | cons j r ih =>
    by_cases hj : usesIn j.ends e.piece e.side = 0
    · have : uses r e.piece e.side = 1 := by simp [uses] at hu ⊢; omega
      obtain ⟨i, k, hi, hk, he⟩ := ih this
      exact ⟨i + 1, k, by simpa using hi, by simpa using hk, by simpa using he⟩
    · have : 0 < j.ends.countP (isEd e.piece e.side) := by unfold usesIn at hj; omega
      obtain ⟨x, hx, hxe⟩ := List.countP_pos_iff.1 this
      obtain ⟨k, hk, hxk⟩ := List.getElem_of_mem hx
      refine ⟨0, k, by simp, by simpa using hk, ?_⟩
      simp [isEd] at hxe
      have : x = e := by cases x; cases e; simp_all
      simpa [this] using hxk

end Go.Proofs.YtcggkfpkkhjdhaaGreat

namespace Go.Proofs.YtcggkfpkkhjdhaaGreat
open Go.RowKit

def StsAt (L : Nat) (w : World) (a : Option Addr) (es : List St) : Prop :=
  ∀ i (h : i < es.length), ∃ b off, a = some ⟨b, off, none⟩ ∧ (L ≤ b ∧ b < w.heap.size) ∧ w.cell? ⟨b, off + i * 2, none⟩ = some (.int .i64 es[i].piece) ∧ w.cell? ⟨b, off + i * 2 + 1, none⟩ = some (.int .i64 es[i].way)

theorem StsAt.keeps {L : Nat} {w w' : World} {a : Option Addr} {es : List St} (h : StsAt L w a es) (hk : Keeps L w w') : StsAt L w' a es := by
  intro i hi
  obtain ⟨b, off, ha, hlt, c0, c1⟩ := h i hi
  exact ⟨b, off, ha, ⟨hlt.1, Nat.lt_of_lt_of_le hlt.2 hk.1⟩, by rw [hk.cell hlt]; exact c0, by rw [hk.cell hlt]; exact c1⟩

theorem StsAt.below {L : Nat} {w w' : World} {a : Option Addr} {es : List St} (h : StsAt L w a es) (hb : Below w.heap.size w w') : StsAt L w' a es := h.keeps (keeps_below L hb)

theorem StsAt.mono {L L' : Nat} {w : World} {a : Option Addr} {es : List St} (h : StsAt L w a es) (hL : L' ≤ L) : StsAt L' w a es := by
  intro i hi
  obtain ⟨b, off, ha, hlt, r⟩ := h i hi
  exact ⟨b, off, ha, ⟨Nat.le_trans hL hlt.1, hlt.2⟩, r⟩

def rowSt (es : List St) (f : Nat → Value) (k : Nat) : Prop :=
  ∀ i (h : i < es.length), i < k → f (i * 2) = .int .i64 es[i].piece ∧ f (i * 2 + 1) = .int .i64 es[i].way

def StsOwn (L U : Nat) (w : World) (a : Option Addr) (es : List St) : Prop :=
  ∃ b f, a = some ⟨b, 0, none⟩ ∧ (L ≤ b ∧ b < U) ∧ w.rowIs b 89 (es.length * 2) f ∧ rowSt es f es.length

theorem StsOwn.at {L U : Nat} {w : World} {a : Option Addr} {es : List St} (h : StsOwn L U w a es) : StsAt L w a es := by
  obtain ⟨b, f, rfl, hb, hrow, hf⟩ := h
  intro i hi
  obtain ⟨e0, e1⟩ := hf i hi hi
  refine ⟨b, 0, rfl, ⟨hb.1, hrow.lt⟩, ?_, ?_⟩
  · rw [← e0, hrow.cell (by omega)]; simp
  · rw [← e1, hrow.cell (by omega)]; simp

theorem StsOwn.stays {L U : Nat} {w w' : World} {a : Option Addr} {es : List St} (h : StsOwn L U w a es) (hk : Stays L U w w') : StsOwn L U w' a es := by
  obtain ⟨b, f, ha, hb, hrow, hf⟩ := h
  exact ⟨b, f, ha, hb, hrow.of_block (hk b hb.1 hb.2), hf⟩

theorem StsOwn.mono {L U L' U' : Nat} {w : World} {a : Option Addr} {es : List St} (h : StsOwn L U w a es) (hL : L' ≤ L) (hU : U ≤ U') : StsOwn L' U' w a es := by
  obtain ⟨b, f, ha, hb, r⟩ := h
  exact ⟨b, f, ha, ⟨by omega, by omega⟩, r⟩

set_option maxHeartbeats 400000 in
theorem toStep_any (p s : Int) (w : World) :
    Calls Tryz.prog 69 #[.agg #[.int .i64 p, .int .i64 s]] w fun e w' =>
      e = .returned (.agg #[.int .i64 p, .int .i64 s]) ∧ Below w.heap.size w w' := by
  go_enter Tryz.func69, Tryz.ntmps69
  go_wp2
  exact bodyPost_ret (v := .agg #[.int .i64 p, .int .i64 s]) (by simp [results, Tryz.results69, go_sem]) rfl ⟨rfl, by
    repeat (first | exact Below.refl _ _ | refine Below.setCell ?_ (by simp <;> omega) _ | refine Below.alloc ?_ (by simp <;> omega) _)⟩

theorem info_Step : (Tryz.prog.info? 89).map (fun i => (i.zero, i.size, i.bytes)) = some (some (.agg #[.int .i64 0, .int .i64 0]), 2, 16) := by kernel_rfl

set_option maxHeartbeats 400000 in
theorem toStepS_own (a : Option Addr) (es : List St) (cap : Nat) (w : World) (hl : es.length ≤ 1048576) {L : Nat} (hp : StsAt L w a es) :
    Calls Tryz.prog 34 #[.slice a es.length cap] w fun e w' =>
      ∃ a', e = .returned (.slice a' es.length es.length) ∧ StsOwn w.heap.size w'.heap.size w' a' es ∧ Below w.heap.size w w' := by
  have hmk := run_make_rows (P := Tryz.prog) 45 89 _ 2 16 (by kernel_rfl) info_Step es.length (by omega) hl
  go_enter Tryz.func34, Tryz.ntmps34
  go_wp2
  go_loopw [4] (fun i wr => ∃ (k : Nat) (f : Nat → Value), k ≤ es.length ∧ i = .int .i64 k ∧ wr.rowIs w.heap.size 89 (es.length * 2) f ∧ rowSt es f k ∧ Below w.heap.size w wr) (fun i _ => es.length - (intOf i).toNat)
  case atStart => exact ⟨0, _, Nat.zero_le _, rfl, row_made _ _ _ _, fun i h h' => by omega, (Below.refl _ _).alloc (Nat.le_refl _) _⟩
  case round =>
    obtain ⟨k, f, hk, rfl, hrow, hf, hb⟩ := hrel
    clear hmk
    by_cases hlt : k < es.length
    · obtain ⟨b, off, rfl, hbs, c0, c1⟩ := hp.below hb k hlt
      go_wp2_with fail
      refine (toStep_any _ _ _).mono ?_
      rintro e w1 ⟨rfl, hb1⟩
      have hrow1 := hrow.of_block (hb1.block _ hrow.lt)
      have z0 := hrow1.frozen (k * 2)
      have z1 := hrow1.frozen (k * 2 + 1)
      have y0 := hrow1.cell (i := k * 2) (by omega)
      have y1 := hrow1.cell (i := k * 2 + 1) (by omega)
      have HR := hide hrow1
      clear hrow1
      go_wp2
      go_roundw
      case rel =>
        refine ⟨k + 1, _, by omega, by go_num, ((unhide HR).set _ _).set _ _, ?_, ?_⟩
        · intro i h h'
          by_cases e : i = k
          · subst e
            simp
          · have := hf i h (by omega)
            refine ⟨?_, ?_⟩ <;> dsimp only <;> (repeat rw [if_neg (by omega)])
            · exact this.1
            · exact this.2
        · have := below_then hb hb1
          repeat (first | exact this | refine Below.setCell ?_ (by simp <;> omega) _)
      case measure => simp [intOf]; omega
    · obtain rfl : k = es.length := by omega
      go_wp2
      go_ret
      exact ⟨_, rfl, ⟨_, f, rfl, ⟨Nat.le_refl _, hrow.lt⟩, hrow, hf⟩, hb⟩

set_option maxHeartbeats 400000 in
theorem eqStep_any (p s : Int) (w : World) :
    Calls Tryz.prog 91 #[.agg #[.int .i64 p, .int .i64 s], .agg #[.int .i64 p, .int .i64 s]] w fun e w' =>
      e = .returned (.bool true) ∧ Below w.heap.size w w' := by
  go_enter Tryz.func91, Tryz.ntmps91
  go_wp2
  go_ret
  exact ⟨rfl, bw0⟩

set_option maxHeartbeats 1000000 in
theorem eqStepS_any (a c : Option Addr) (es : List St) (ca cc : Nat) (w : World) {L L' : Nat} (hl : es.length ≤ 1048576) (hp : StsAt L w a es) (hq : StsAt L' w c es) :
    Calls Tryz.prog 48 #[.slice a es.length ca, .slice c es.length cc] w fun e w' =>
      e = .returned (.bool true) ∧ Below w.heap.size w w' := by
  go_enter Tryz.func48, Tryz.ntmps48
  go_wp2
  go_loopw [5] (fun i wr => ∃ (k : Nat), k ≤ es.length ∧ i = .int .i64 k ∧ Below w.heap.size w wr) (fun i _ => es.length - (intOf i).toNat)
  case atStart => exact ⟨0, Nat.zero_le _, rfl, Below.refl _ _⟩
  case round =>
    obtain ⟨k, hk, rfl, hb⟩ := hrel
    by_cases hlt : k < es.length
    · obtain ⟨b, off, rfl, hbs, c0, c1⟩ := hp.below hb k hlt
      obtain ⟨b', off', rfl, hbs', c0', c1'⟩ := hq.below hb k hlt
      go_wp2_with fail
      go_region_with (go_at_call 91; refine (eqStep_any _ _ _).mono ?_; rintro e w1 ⟨rfl, hb1⟩)
      all_goals go_wp2
      all_goals exact ⟨⟨k + 1, by omega, by go_num, below_then hb.drew hb1⟩, by simp [intOf]; omega⟩
    · go_wp2
      go_ret
      exact ⟨rfl, hb⟩

set_option maxHeartbeats 400000 in
theorem szStepS_any (a : Option Addr) (n cap : Nat) (left : Int) (w : World) (h0 : 0 ≤ left) (h1 : left ≤ 1048576) (hl : n ≤ maxLen) :
    Calls Tryz.prog 26 #[.slice a n cap, .int .i64 left] w fun e w' =>
      ∃ r : Int, e = .returned (.int .i64 r) ∧ r ≤ left ∧ (0 ≤ r → n ≤ left) ∧ Below w.heap.size w w' := by
  unfold maxLen at hl
  by_cases h : left - n < 0
  · go_enter Tryz.func26, Tryz.ntmps26
    go_wp2
    go_ret
    exact ⟨-1, rfl, by omega, by omega, (Below.refl _ _)⟩
  · go_enter Tryz.func26, Tryz.ntmps26
    go_wp2
    go_ret
    exact ⟨left - n, rfl, by omega, by omega, (Below.refl _ _)⟩


/-- A train in memory, as a value. -/
def TrAt (L : Nat) (w : World) (v : Value) (t : Tr) : Prop :=
  ∃ a cap, v = .agg #[.int .i64 t.front.piece, .int .i64 t.front.at_, .int .i64 t.front.way, .int .i64 t.long, .slice a t.back.length cap] ∧ StsAt L w a t.back
def TrOwn (L U : Nat) (w : World) (v : Value) (t : Tr) : Prop :=
  ∃ a, v = .agg #[.int .i64 t.front.piece, .int .i64 t.front.at_, .int .i64 t.front.way, .int .i64 t.long, .slice a t.back.length t.back.length] ∧ StsOwn L U w a t.back
theorem TrAt.keeps {L : Nat} {w w' : World} {v : Value} {t : Tr} (h : TrAt L w v t) (hk : Keeps L w w') : TrAt L w' v t := by
  obtain ⟨a, cap, hv, hs⟩ := h
  exact ⟨a, cap, hv, hs.keeps hk⟩
theorem TrAt.below {L : Nat} {w w' : World} {v : Value} {t : Tr} (h : TrAt L w v t) (hb : Below w.heap.size w w') : TrAt L w' v t := h.keeps (keeps_below L hb)
theorem TrOwn.at {L U : Nat} {w : World} {v : Value} {t : Tr} (h : TrOwn L U w v t) : TrAt L w v t := by
  obtain ⟨a, hv, hs⟩ := h
  exact ⟨a, _, hv, hs.at⟩
theorem TrOwn.stays {L U : Nat} {w w' : World} {v : Value} {t : Tr} (h : TrOwn L U w v t) (hk : Stays L U w w') : TrOwn L U w' v t := by
  obtain ⟨a, hv, hs⟩ := h
  exact ⟨a, hv, hs.stays hk⟩

set_option maxHeartbeats 400000 in
theorem toSpot_any (p a y : Int) (w : World) :
    Calls Tryz.prog 33 #[.agg #[.int .i64 p, .int .i64 a, .int .i64 y]] w fun e w' =>
      e = .returned (.agg #[.int .i64 p, .int .i64 a, .int .i64 y]) ∧ Below w.heap.size w w' := by
  go_enter Tryz.func33, Tryz.ntmps33
  go_wp2
  exact bodyPost_ret (v := .agg #[.int .i64 p, .int .i64 a, .int .i64 y]) (by simp [results, Tryz.results33, go_sem]) rfl ⟨rfl, bw0⟩

set_option maxHeartbeats 400000 in
theorem eqSpot_any (p a y : Int) (w : World) :
    Calls Tryz.prog 47 #[.agg #[.int .i64 p, .int .i64 a, .int .i64 y], .agg #[.int .i64 p, .int .i64 a, .int .i64 y]] w fun e w' =>
      e = .returned (.bool true) ∧ Below w.heap.size w w' := by
  go_enter Tryz.func47, Tryz.ntmps47
  go_wp2
  go_ret
  exact ⟨rfl, bw0⟩

set_option maxHeartbeats 400000 in
theorem szTrain_any (v : Value) (t : Tr) (left : Int) (w : World) (h0 : 0 ≤ left) (h1 : left ≤ 1048576) {L : Nat} (hv : TrAt L w v t) (hl : t.back.length ≤ maxLen) :
    Calls Tryz.prog 5 #[v, .int .i64 left] w fun e w' =>
      ∃ r : Int, e = .returned (.int .i64 r) ∧ r ≤ left ∧ (0 ≤ r → t.back.length ≤ left) ∧ Below w.heap.size w w' := by
  obtain ⟨a, cap, rfl, hs⟩ := hv
  go_enter Tryz.func5, Tryz.ntmps5
  go_wp2_with fail
  refine (szStepS_any _ _ _ _ _ h0 h1 hl).mono ?_
  rintro e w' ⟨r', rfl, hr', hn', hb'⟩
  have hb : Below w.heap.size w w' := ((Below.refl _ _).alloc (Nat.le_refl _) _).trans (hb'.mono (by simp))
  by_cases hneg : r' < 0
  · go_wp2
    go_ret
    exact ⟨-1, rfl, by omega, by omega, hb⟩
  · go_wp2
    go_ret
    exact ⟨r', rfl, by omega, fun h => by have := hn' h; omega, hb⟩

set_option maxHeartbeats 1000000 in
theorem toTrain_own (v : Value) (t : Tr) (w : World) {L : Nat} (hv : TrAt L w v t) (hl : t.back.length ≤ 1048576) :
    Calls Tryz.prog 10 #[v] w fun e w' =>
      ∃ v', e = .returned v' ∧ TrOwn w.heap.size w'.heap.size w' v' t ∧ Below w.heap.size w w' := by
  obtain ⟨a, cap, rfl, hs⟩ := hv
  go_enter Tryz.func10, Tryz.ntmps10
  go_wp2_with fail
  refine (toSpot_any _ _ _ _).mono ?_
  rintro e w1 ⟨rfl, hb1⟩
  have hbw := Below.trans (bw0 : Below w.heap.size w _) (hb1.mono (by simp <;> omega))
  obtain ⟨hc, hf⟩ := bcell hb1
  have hz := hb1.size
  simp at hz
  go_wp2_with fail
  refine (toStepS_own a t.back cap _ hl (L := L) ?hA).mono ?_
  case hA => exact hs.below (by repeat (first | with_reducible exact Below.refl _ _ | with_reducible exact hbw | refine bwS ?_ | refine bwA ?_ | refine Below.drew ?_ | refine below_draws ?_ _ | exact hbw | exact Below.refl _ _))
  rintro e w2 ⟨a2, rfl, he2, hb2⟩
  have hbw2 := Below.trans ((by repeat (first | with_reducible exact Below.refl _ _ | with_reducible exact hbw | refine bwS ?_ | refine bwA ?_ | refine Below.drew ?_ | refine below_draws ?_ _ | exact hbw | exact Below.refl _ _)) : Below w.heap.size w _) (hb2.mono (by simp [World.setCell] <;> omega))
  obtain ⟨hc2, hf2⟩ := bcellN (w.heap.size + 3) hb2 (by simp [World.setCell]; omega)
  have hz2 := hb2.size
  simp [World.setCell] at hz2 he2
  go_wp2
  refine bodyPost_ret (v := .agg #[.int .i64 t.front.piece, .int .i64 t.front.at_, .int .i64 t.front.way, .int .i64 t.long, .slice a2 t.back.length t.back.length]) (by simp [results, Tryz.results10, go_sem, hc, hc2]) rfl
    ⟨_, rfl, ⟨_, rfl, (he2.stays ?_).mono (by omega) (by simp [World.setCell])⟩, (by repeat (first | with_reducible exact Below.refl _ _ | with_reducible exact hbw2 | refine bwS ?_ | refine bwA ?_ | refine Below.drew ?_ | refine below_draws ?_ _ | exact hbw2 | exact Below.refl _ _))⟩
  repeat (refine Stays.trans ?_ (stays_setCell _ (by first | (simp; omega) | simp) _))
  exact fun _ _ _ => rfl

set_option maxHeartbeats 1000000 in
theorem eqTrain_any (v v' : Value) (t : Tr) (w : World) {L L' : Nat} (hl : t.back.length ≤ 1048576) (hp : TrAt L w v t) (hq : TrAt L' w v' t) :
    Calls Tryz.prog 16 #[v, v'] w fun e w' =>
      e = .returned (.bool true) ∧ Below w.heap.size w w' := by
  obtain ⟨a, ca, rfl, ha⟩ := hp
  obtain ⟨c, cc, rfl, hc'⟩ := hq
  go_enter Tryz.func16, Tryz.ntmps16
  go_wp2_with fail
  refine (eqSpot_any _ _ _ _).mono ?_
  rintro e w1 ⟨rfl, hb1⟩
  have hbw := Below.trans (bw0 : Below w.heap.size w _) (hb1.mono (by simp <;> omega))
  obtain ⟨hc, hf⟩ := bcell hb1
  have hz := hb1.size
  simp at hz
  go_wp2_with fail
  refine (eqStepS_any a c t.back ca cc _ hl (ha.below hbw) (hc'.below hbw)).mono ?_
  rintro e w2 ⟨rfl, hb2⟩
  go_wp2
  go_ret
  exact ⟨rfl, below_then hbw hb2⟩

end Go.Proofs.YtcggkfpkkhjdhaaGreat

namespace Go.Proofs.YtcggkfpkkhjdhaaGreat
open Go.ChangeShapes Go.WideShapes Go.ChangeAt Go.RowKit Go.Deep Go.Joins

theorem cellsLStep : Tryz.prog.cellsOf 150 = 2 := by kernel_rfl
theorem cellsLSpot : Tryz.prog.cellsOf 28 = 3 := by kernel_rfl
theorem cellsLTrain : Tryz.prog.cellsOf 31 = 5 := by kernel_rfl
theorem cellsLSteps : Tryz.prog.cellsOf 29 = 1 := by kernel_rfl

section
variable {H : Type} {enc : TypeId × Value → H} {w : World} {base : Nat} {held : Bool}

set_option maxRecDepth 100000 in
theorem readSts {fuel : Nat} {cs : List Value} {x : DataW H × List MemPlace} (h : DataW.trod enc Tryz.prog w base (fun _ => true) held fuel 29 cs = some x) :
    ∃ a cap es, cs = [.slice a (List.length es) cap] ∧ StsAt 0 w a es ∧ es.length ≤ maxLen := by
  rcases open_slice Tryz.underlying29 h with ⟨rfl, _⟩ | ⟨a, len, cap, m, n, D, Pl, rfl, hb, hl, hm, hmm, _, hx⟩
  · exact ⟨none, 0, [], rfl, fun i h => by simp at h, by simp⟩
  · rw [cellsLStep] at hx
    simp only [if_true] at hmm
    subst hmm
    have each : ∀ i, i < len → ∃ e : St, ∃ b off, a = ⟨b, off, none⟩ ∧ b < w.heap.size ∧ w.cell? ⟨b, off + i * 2, none⟩ = some (.int .i64 e.piece) ∧ w.cell? ⟨b, off + i * 2 + 1, none⟩ = some (.int .i64 e.way) := by
      intro i hi
      obtain ⟨b, off, cs, ha, hblk, ht, hlen, hcell⟩ := row_cells (by omega) hx (show i < m by omega)
      obtain ⟨y0, y1, k, _, _, h0, h1⟩ := trod_struct2 Tryz.underlying150 ht
      match cs, hlen with
      | [v0, v1], _ =>
        simp [cellsInt] at h0 h1
        obtain ⟨p, e0, _, _⟩ := DataW.trod_int uInt h0
        obtain ⟨s, e1, _, _⟩ := DataW.trod_int uInt h1
        simp at e0 e1
        subst e0 e1
        exact ⟨⟨p, s⟩, b, off, ha, hblk, by simpa using hcell 0 (by omega), by simpa using hcell 1 (by omega)⟩
    haveI : Inhabited St := ⟨⟨0, 0⟩⟩
    obtain ⟨f, hf⟩ := choose_lt each
    refine ⟨some a, m, (List.range len).map f, by simp, fun i hi => ?_, by simp; omega⟩
    have hi' : i < len := by simpa using hi
    obtain ⟨b, off, ha, hblk, r0, r1⟩ := hf i hi'
    exact ⟨b, off, by rw [ha], ⟨Nat.zero_le _, hblk⟩, by simpa using r0, by simpa using r1⟩

set_option maxRecDepth 100000 in
/-- A train that came in. -/
theorem readTrain {r : Reach} {b0 : Nat} {v : Value} {d : DataW H} {p : List MemPlace} (hv : Value.okWide Tryz.prog w r b0 31 v) (h : DataW.Trod enc Tryz.prog w base (fun _ => true) held 31 v d p) :
    ∃ t : Tr, TrAt 0 w v t ∧ t.back.length ≤ maxLen := by
  obtain ⟨cs, rfl, hsz⟩ := okWide_struct Tryz.underlying31 hv
  rw [cellsLTrain] at hsz
  obtain ⟨l⟩ := cs
  match l, hsz with
  | [c0, c1, c2, c3, c4], _ =>
    obtain ⟨fuel, hf⟩ := h
    obtain ⟨y0, y1, y2, k, _, _, h0, h1, h2⟩ := trod_struct3 Tryz.underlying31 hf
    simp [cellsInt, cellsLSpot, cellsLSteps, Value.cells] at h0 h1 h2
    obtain ⟨z0, z1, z2, k', _, _, g0, g1, g2⟩ := trod_struct3 Tryz.underlying28 h0
    simp [cellsInt] at g0 g1 g2
    obtain ⟨x0, e0, _, _⟩ := DataW.trod_int uInt g0
    obtain ⟨x1, e1, _, _⟩ := DataW.trod_int uInt g1
    obtain ⟨x2, e2, _, _⟩ := DataW.trod_int uInt g2
    obtain ⟨x3, e3, _, _⟩ := DataW.trod_int uInt h1
    obtain ⟨ea, ec, es, e4, hes, hel⟩ := readSts h2
    simp at e0 e1 e2 e3 e4
    subst e0 e1 e2 e3 e4
    exact ⟨⟨⟨x0, x1, x2⟩, x3, es⟩, ⟨ea, ec, rfl, hes⟩, hel⟩
end
end Go.Proofs.YtcggkfpkkhjdhaaGreat

namespace Go.Proofs.YtcggkfpkkhjdhaaGreat
open Go.RowKit

/-- What Place gives, as a value. -/
def PlAt (L : Nat) (w : World) (v : Value) (ok : Bool) (t : Tr) : Prop :=
  ∃ a cap, v = .agg #[.bool ok, .int .i64 t.front.piece, .int .i64 t.front.at_, .int .i64 t.front.way, .int .i64 t.long, .slice a t.back.length cap] ∧ StsAt L w a t.back



set_option maxHeartbeats 1000000 in
theorem markTrain_any (p q y long : Int) (a : Option Addr) (n cap : Nat) (k0 : Int) (f : Nat → Value) (w : World) (hn : n ≤ 1048576) (h0 : 0 ≤ k0) (h1 : k0 ≤ 100000000000000) (ho : OwnL w a (n * 2) f) :
    Calls Tryz.prog 20 #[.agg #[.int .i64 p, .int .i64 q, .int .i64 y, .int .i64 long, .slice a n cap], .int .i64 k0] w fun e w' => e = .returned (.int .i64 (k0 + (n * 2 : Nat))) ∧ OwnL w' a (n * 2) (marks k0) ∧ Only (blk a) w w' := by
  have hb0 : Below w.heap.size w (w.alloc (.cells #[.int .i64 p, .int .i64 q, .int .i64 y, .int .i64 long, .slice a n cap] 47)) := bw0
  have ho' : OwnL (w.alloc (.cells #[.int .i64 p, .int .i64 q, .int .i64 y, .int .i64 long, .slice a n cap] 47)) a (n * 2) f := fun hp => let ⟨b, off, ha, hc⟩ := ho hp; ⟨b, off, ha, hc.below hb0⟩
  go_enter Tryz.func20, Tryz.ntmps20
  go_wp2_with fail
  refine (markStepS_any _ _ _ _ f _ hn h0 (by omega) ho').mono ?_
  rintro e w1 ⟨rfl, ho1, hon1⟩
  go_wp2
  go_ret
  exact ⟨rfl, ho1, (only_of_below hb0).trans hon1⟩







/-- Parts of pieces in memory. -/
def PtsAt (L : Nat) (w : World) (a : Option Addr) (ps : List Pt) : Prop :=
  ∀ i (h : i < ps.length), ∃ b off, a = some ⟨b, off, none⟩ ∧ (L ≤ b ∧ b < w.heap.size) ∧ w.cell? ⟨b, off + i * 3, none⟩ = some (.int .i64 ps[i].piece) ∧ w.cell? ⟨b, off + i * 3 + 1, none⟩ = some (.int .i64 ps[i].fr) ∧ w.cell? ⟨b, off + i * 3 + 2, none⟩ = some (.int .i64 ps[i].to)
theorem PtsAt.keeps {L : Nat} {w w' : World} {a : Option Addr} {ps : List Pt} (h : PtsAt L w a ps) (hk : Keeps L w w') : PtsAt L w' a ps := by
  intro i hi
  obtain ⟨b, off, ha, hlt, c0, c1, c2⟩ := h i hi
  exact ⟨b, off, ha, ⟨hlt.1, Nat.lt_of_lt_of_le hlt.2 hk.1⟩, by rw [hk.cell hlt]; exact c0, by rw [hk.cell hlt]; exact c1, by rw [hk.cell hlt]; exact c2⟩
theorem PtsAt.below {L : Nat} {w w' : World} {a : Option Addr} {ps : List Pt} (h : PtsAt L w a ps) (hb : Below w.heap.size w w') : PtsAt L w' a ps := h.keeps (keeps_below L hb)



end Go.Proofs.YtcggkfpkkhjdhaaGreat
namespace Go.Proofs.YtcggkfpkkhjdhaaGreat
open Go.RowKit

/-- What is carried over a step that marks some blocks alone. -/
theorem Boxed.onlyS {S : Nat → Prop} {w w' : World} {N : Nat} {vs : List Value} (h : Boxed w N vs) (ho : Only S w w') (hN : ¬ S N) : Boxed w' N vs := by
  have hb := ho.block N h.1 hN
  exact ⟨Nat.lt_of_lt_of_le h.1 ho.size, fun i v hi => by rw [World.cell?_of_block (w := w) (a := ⟨N, i, none⟩) hb]; exact h.2.1 i v hi, fun i => by rw [World.frozen?_of_block (w := w) (a := ⟨N, i, none⟩) hb]; exact h.2.2 i⟩

theorem Row.only {α : Type} {S : Nat → Prop} {w w' : World} {base : Nat} {e : TypeId} {sz : Nat} {f : α → List Value} {v : Value} {xs : List α} (h : Row w base e sz f v xs) (ho : Only S w w') (hS : ∀ k, v.ownBlock = some k → ¬ S k) : Row w' base e sz f v xs :=
  h.block fun k hk => ho.block k (h.lt k hk).2 (hS k hk)

theorem Row.own {α : Type} {w : World} {base : Nat} {e : TypeId} {sz : Nat} {f : α → List Value} {a : Option Addr} {m cap : Nat} {xs : List α} (h : Row w base e sz f (.slice a m cap) xs) : OwnL w a (xs.length * sz) (fun j => ((xs.flatMap f)[j]?).getD undef) := by
  intro hpos
  obtain ⟨hlen, ⟨hv, h0⟩ | ⟨g, cap', cur, hv, hb, hh, hc1, hc2, hc3, hc4⟩⟩ := h
  · rw [h0] at hpos
    omega
  · simp at hv
    obtain ⟨rfl, _, _⟩ := hv
    have hlt : g < w.heap.size := by
      by_cases hlt : g < w.heap.size
      · exact hlt
      · rw [Array.getElem?_eq_none (by omega)] at hh
        simp at hh
    refine ⟨g, 0, rfl, hlt, fun j hj => ⟨?_, ?_⟩⟩
    · unfold World.cell?
      rw [hh]
      have hle : xs.length * sz ≤ cur.size := by rw [hc3]; exact Nat.mul_le_mul_right _ hc1
      have h1 : (xs.flatMap f)[j]? = cur[j]? := by
        rw [← hc4]
        simp [hj]
      show _ = some (((xs.flatMap f)[j]?).getD undef)
      rw [h1]
      simp [show j < cur.size by omega]
    · unfold World.frozen?
      rw [hh]
      simp

theorem ownBlock_slice {a : Option Addr} {m cap k : Nat} (h : blk a k) : (Value.slice a m cap).ownBlock = some k := by
  obtain ⟨b, off, rfl, rfl⟩ := h
  rfl

theorem OwnL.below {w w' : World} {a : Option Addr} {m : Nat} {f : Nat → Value} (h : OwnL w a m f) (hb : Below w.heap.size w w') : OwnL w' a m f := fun hp => by
  obtain ⟨b, off, ha, hc⟩ := h hp
  exact ⟨b, off, ha, hc.below hb⟩

theorem OwnL.only {S : Nat → Prop} {w w' : World} {a : Option Addr} {m : Nat} {f : Nat → Value} (h : OwnL w a m f) (ho : Only S w w') (hS : ∀ k, blk a k → ¬ S k) : OwnL w' a m f := fun hp => by
  obtain ⟨b, off, ha, hc⟩ := h hp
  exact ⟨b, off, ha, hc.of_block (ho.block b hc.1 (hS b ⟨b, off, ha, rfl⟩)) ho.size⟩

theorem NetOwn.below {L U : Nat} {w w' : World} {v : Value} {n : Nt} (h : NetOwn L U w v n) (hb : Below w.heap.size w w') (hU : U ≤ w.heap.size) : NetOwn L U w' v n := h.stays (stays_below hb hU)

theorem StsOwn.below {L U : Nat} {w w' : World} {a : Option Addr} {es : List St} (h : StsOwn L U w a es) (hb : Below w.heap.size w w') (hU : U ≤ w.heap.size) : StsOwn L U w' a es := h.stays (stays_below hb hU)

theorem StsOwn.own {L U : Nat} {w : World} {a : Option Addr} {es : List St} (h : StsOwn L U w a es) : ∃ f, OwnL w a (es.length * 2) f ∧ ∀ k, blk a k → L ≤ k ∧ k < U := by
  obtain ⟨b, f, rfl, hb, hrow, _⟩ := h
  refine ⟨f, fun _ => ⟨b, 0, rfl, own_row hrow⟩, fun k hk => ?_⟩
  obtain ⟨b', off, ha, rfl⟩ := hk
  simp at ha
  obtain ⟨rfl, _⟩ := ha
  exact hb

end Go.Proofs.YtcggkfpkkhjdhaaGreat

namespace Go.Proofs.YtcggkfpkkhjdhaaGreat
open Go.RowKit

/-- A row of another type is another block. -/
theorem Row.apart {α β : Type} {w : World} {base base' : Nat} {e e' : TypeId} {sz sz' : Nat} {f : α → List Value} {f' : β → List Value} {v v' : Value} {xs : List α} {ys : List β} (h : Row w base e sz f v xs) (h' : Row w base' e' sz' f' v' ys) (hne : e ≠ e') :
    ∀ k, v.ownBlock = some k → v'.ownBlock ≠ some k := by
  intro k hk hk'
  obtain ⟨_, ⟨rfl, _⟩ | ⟨g, cap, cur, rfl, _, hh, _⟩⟩ := h
  · simp [Value.ownBlock] at hk
  · obtain ⟨_, ⟨rfl, _⟩ | ⟨g', cap', cur', rfl, _, hh', _⟩⟩ := h'
    · simp [Value.ownBlock] at hk'
    · simp [Value.ownBlock] at hk hk'
      subst hk
      subst hk'
      rw [hh] at hh'
      simp at hh'
      exact hne hh'.2
theorem Row.kept {α : Type} {w w' : World} {base : Nat} {e : TypeId} {sz : Nat} {f : α → List Value} {v : Value} {xs : List α} {row : Option Nat} (h : Row w base e sz f v xs) (hg : w.grownBy w' row) (hne : ∀ k, v.ownBlock = some k → row ≠ some k) : Row w' base e sz f v xs :=
  h.block fun k hk => hg.block k (h.lt k hk).2 (fun e => hne k hk e.symm)
theorem Boxed.grownE {w w' : World} {N : Nat} {vs : List Value} {row : Option Nat} (h : Boxed w N vs) (hg : w.grownBy w' row) (hne : row ≠ some N) : Boxed w' N vs := by
  have hb : w'.heap[N]? = w.heap[N]? := hg.block N h.1 (fun e => hne e.symm)
  exact ⟨Nat.lt_of_lt_of_le h.1 hg.size, fun i v hi => by rw [World.cell?_of_block (w := w) (a := ⟨N, i, none⟩) hb]; exact h.2.1 i v hi, fun i => by rw [World.frozen?_of_block (w := w) (a := ⟨N, i, none⟩) hb]; exact h.2.2 i⟩
end Go.Proofs.YtcggkfpkkhjdhaaGreat

