import Derived.Test.YtcggkfpkkhjdhaaGreatMPs2
import Derived.Test.YtcggkfpkkhjdhaaGreatPw7
import Derived.Test.YtcggkfpkkhjdhaaGreatMPlain2
import Derived.Test.YtcggkfpkkhjdhaaGreatMTo
import Derived.Test.YtcggkfpkkhjdhaaGreatPs4
set_option linter.unusedSimpArgs false
namespace Go.Proofs.YtcggkfpkkhjdhaaGreat
open Go.RowKit

/-! ### Rows of posts and of passes, in the laws -/

def rowPo (ps : List (Int × Int)) (f : Nat → Value) (k : Nat) : Prop :=
  ∀ i (h : i < ps.length), i < k → f (i * 2) = .int .i64 ps[i].1 ∧ f (i * 2 + 1) = .int .i64 ps[i].2
def PosOwn (L U : Nat) (w : World) (a : Option Addr) (ps : List (Int × Int)) : Prop :=
  ∃ b f, a = some ⟨b, 0, none⟩ ∧ (L ≤ b ∧ b < U) ∧ w.rowIs b 68 (ps.length * 2) f ∧ rowPo ps f ps.length
theorem PosOwn.at {L U : Nat} {w : World} {a : Option Addr} {ps : List (Int × Int)} (h : PosOwn L U w a ps) : PoAt L w a ps := by
  obtain ⟨b, f, rfl, hb, hrow, hf⟩ := h
  intro i hi
  obtain ⟨e0, e1⟩ := hf i hi hi
  refine ⟨b, 0, rfl, ⟨hb.1, hrow.lt⟩, ?_, ?_⟩
  · rw [← e0, hrow.cell (by omega)]; simp
  · rw [← e1, hrow.cell (by omega)]; simp
theorem PosOwn.stays {L U : Nat} {w w' : World} {a : Option Addr} {ps : List (Int × Int)} (h : PosOwn L U w a ps) (hk : Stays L U w w') : PosOwn L U w' a ps := by
  obtain ⟨b, f, ha, hb, hrow, hf⟩ := h
  exact ⟨b, f, ha, hb, hrow.of_block (hk b hb.1 hb.2), hf⟩
theorem PosOwn.below {L U : Nat} {w w' : World} {a : Option Addr} {ps : List (Int × Int)} (h : PosOwn L U w a ps) (hb : Below w.heap.size w w') (hU : U ≤ w.heap.size) : PosOwn L U w' a ps := h.stays (stays_below hb hU)
theorem PosOwn.own {L U : Nat} {w : World} {a : Option Addr} {ps : List (Int × Int)} (h : PosOwn L U w a ps) : ∃ f, OwnL w a (ps.length * 2) f ∧ ∀ k, blk a k → L ≤ k ∧ k < U := by
  obtain ⟨b, f, rfl, hb, hrow, _⟩ := h
  refine ⟨f, fun _ => ⟨b, 0, rfl, own_row hrow⟩, fun k hk => ?_⟩
  obtain ⟨b', off, ha, rfl⟩ := hk
  simp at ha
  obtain ⟨rfl, _⟩ := ha
  exact hb

theorem info_Post2 : (Tryz.prog.info? 68).map (fun i => (i.zero, i.size, i.bytes)) = some (some (.agg #[.int .i64 0, .int .i64 0]), 2, 16) := by kernel_rfl

set_option maxHeartbeats 400000 in
theorem toPost_any (p f : Int) (w : World) :
    Calls Tryz.prog 35 #[.agg #[.int .i64 p, .int .i64 f]] w fun e w' =>
      e = .returned (.agg #[.int .i64 p, .int .i64 f]) ∧ Below w.heap.size w w' := by
  go_enter Tryz.func35, Tryz.ntmps35
  go_wp2
  exact bodyPost_ret (v := .agg #[.int .i64 p, .int .i64 f]) (by simp [results, Tryz.results35, go_sem]) rfl ⟨rfl, bw0⟩

set_option maxHeartbeats 400000 in
theorem szPostS_any (a : Option Addr) (n cap : Nat) (left : Int) (w : World) (h0 : 0 ≤ left) (h1 : left ≤ 1048576) (hl : n ≤ maxLen) :
    Calls Tryz.prog 6 #[.slice a n cap, .int .i64 left] w fun e w' =>
      ∃ r : Int, e = .returned (.int .i64 r) ∧ r ≤ left ∧ (0 ≤ r → n ≤ left) ∧ Below w.heap.size w w' := by
  unfold maxLen at hl
  by_cases h : left - n < 0
  · go_enter Tryz.func6, Tryz.ntmps6
    go_wp2
    go_ret
    exact ⟨-1, rfl, by omega, by omega, (Below.refl _ _)⟩
  · go_enter Tryz.func6, Tryz.ntmps6
    go_wp2
    go_ret
    exact ⟨left - n, rfl, by omega, by omega, (Below.refl _ _)⟩

set_option maxHeartbeats 400000 in
theorem toPostS_own (a : Option Addr) (ps : List (Int × Int)) (cap : Nat) (w : World) (hl : ps.length ≤ 1048576) {L : Nat} (hp : PoAt L w a ps) :
    Calls Tryz.prog 11 #[.slice a ps.length cap] w fun e w' =>
      ∃ a', e = .returned (.slice a' ps.length ps.length) ∧ PosOwn w.heap.size w'.heap.size w' a' ps ∧ Below w.heap.size w w' := by
  have hmk := run_make_rows (P := Tryz.prog) 49 68 _ 2 16 (by kernel_rfl) info_Post2 ps.length (by omega) hl
  go_enter Tryz.func11, Tryz.ntmps11
  go_wp2
  go_loopw [4] (fun i wr => ∃ (k : Nat) (f : Nat → Value), k ≤ ps.length ∧ i = .int .i64 k ∧ wr.rowIs w.heap.size 68 (ps.length * 2) f ∧ rowPo ps f k ∧ Below w.heap.size w wr) (fun i _ => ps.length - (intOf i).toNat)
  case atStart => exact ⟨0, _, Nat.zero_le _, rfl, row_made _ _ _ _, fun i h h' => by omega, (Below.refl _ _).alloc (Nat.le_refl _) _⟩
  case round =>
    obtain ⟨k, f, hk, rfl, hrow, hf, hb⟩ := hrel
    clear hmk
    by_cases hlt : k < ps.length
    · obtain ⟨b, off, rfl, hbs, c0, c1⟩ := hp.below hb k hlt
      go_wp2_with fail
      refine (toPost_any _ _ _).mono ?_
      rintro e w1 ⟨rfl, hb1⟩
      have hrow1 := hrow.of_block (hb1.block _ hrow.lt)
      have z0 := hrow1.frozen (k * 2)
      have z1 := hrow1.frozen (k * 2 + 1)
      have y0 := hrow1.cell (i := k * 2) (by omega)
      have y1 := hrow1.cell (i := k * 2 + 1) (by omega)
      have HR := hide hrow1
      clear hrow1
      go_wp2
      go_roundw
      case rel =>
        refine ⟨k + 1, _, by omega, by go_num, ((unhide HR).set _ _).set _ _, ?_, ?_⟩
        · intro i h h'
          by_cases e : i = k
          · subst e
            simp
          · have := hf i h (by omega)
            refine ⟨?_, ?_⟩ <;> dsimp only <;> (repeat rw [if_neg (by omega)])
            · exact this.1
            · exact this.2
        · have := below_then hb hb1
          repeat (first | exact this | refine Below.setCell ?_ (by simp <;> omega) _)
      case measure => simp [intOf]; omega
    · obtain rfl : k = ps.length := by omega
      go_wp2
      go_ret
      exact ⟨_, rfl, ⟨_, f, rfl, ⟨Nat.le_refl _, hrow.lt⟩, hrow, hf⟩, hb⟩

set_option maxHeartbeats 400000 in
theorem eqPost_any (p s : Int) (w : World) :
    Calls Tryz.prog 49 #[.agg #[.int .i64 p, .int .i64 s], .agg #[.int .i64 p, .int .i64 s]] w fun e w' =>
      e = .returned (.bool true) ∧ Below w.heap.size w w' := by
  go_enter Tryz.func49, Tryz.ntmps49
  go_wp2
  go_ret
  exact ⟨rfl, bw0⟩

set_option maxHeartbeats 1000000 in
theorem eqPostS_any (a c : Option Addr) (es : List (Int × Int)) (ca cc : Nat) (w : World) {L L' : Nat} (hl : es.length ≤ 1048576) (hp : PoAt L w a es) (hq : PoAt L' w c es) :
    Calls Tryz.prog 17 #[.slice a es.length ca, .slice c es.length cc] w fun e w' =>
      e = .returned (.bool true) ∧ Below w.heap.size w w' := by
  go_enter Tryz.func17, Tryz.ntmps17
  go_wp2
  go_loopw [5] (fun i wr => ∃ (k : Nat), k ≤ es.length ∧ i = .int .i64 k ∧ Below w.heap.size w wr) (fun i _ => es.length - (intOf i).toNat)
  case atStart => exact ⟨0, Nat.zero_le _, rfl, Below.refl _ _⟩
  case round =>
    obtain ⟨k, hk, rfl, hb⟩ := hrel
    by_cases hlt : k < es.length
    · obtain ⟨b, off, rfl, hbs, c0, c1⟩ := hp.below hb k hlt
      obtain ⟨b', off', rfl, hbs', c0', c1'⟩ := hq.below hb k hlt
      go_wp2_with fail
      go_region_with (go_at_call 49; refine (eqPost_any _ _ _).mono ?_; rintro e w1 ⟨rfl, hb1⟩)
      all_goals go_wp2
      all_goals exact ⟨⟨k + 1, by omega, by go_num, below_then hb.drew hb1⟩, by simp [intOf]; omega⟩
    · go_wp2
      go_ret
      exact ⟨rfl, hb⟩

set_option maxHeartbeats 400000 in
theorem markPostS_any (a : Option Addr) (n cap : Nat) (k0 : Int) (f : Nat → Value) (w : World) (hn : n ≤ 1048576) (h0 : 0 ≤ k0) (h1 : k0 ≤ 1000000000000000) (ho : OwnL w a (n * 2) f) :
    Calls Tryz.prog 21 #[.slice a n cap, .int .i64 k0] w fun e w' => e = .returned (.int .i64 (k0 + (n * 2 : Nat))) ∧ OwnL w' a (n * 2) (marks k0) ∧ Only (blk a) w w' := by
  go_enter Tryz.func21, Tryz.ntmps21
  go_wp2
  go_loopw [1, 5] (fun y x wr => ∃ k : Nat, k ≤ n ∧ x = .int .i64 k ∧ y = .int .i64 (k0 + (k * 2 : Nat)) ∧ OwnL wr a (n * 2) (fun j => if j < k * 2 then marks k0 j else f j) ∧ Only (blk a) w wr) (fun _ x _ => n - (intOf x).toNat)
  case atStart => exact ⟨0, Nat.zero_le _, rfl, by simp, by simpa using ho, only_refl _ _⟩
  case round =>
    obtain ⟨k, hk, rfl, rfl, hO, hon⟩ := hrel
    by_cases hlt : k < n
    · obtain ⟨b, off, rfl, hC⟩ := hO (by omega)
      have y0 := (hC.2 (k * 2) (by omega)).1
      have z0 := (hC.2 (k * 2) (by omega)).2
      have y1 := (hC.2 (k * 2 + 1) (by omega)).1
      have z1 := (hC.2 (k * 2 + 1) (by omega)).2
      simp only [← Nat.add_assoc] at y0 z0 y1 z1
      have HC := hide hC
      clear hC
      go_wp2
      refine ⟨⟨k + 1, by omega, by go_num, congrArg (Value.int .i64) (by omega), fun _ => ⟨b, off, rfl, ?_⟩, ((hon.trans (only_setCell _ ⟨b, off, rfl, rfl⟩ _)).trans (only_setCell _ ⟨b, off, rfl, rfl⟩ _))⟩, by simp [intOf]; omega⟩
      refine OwnC.congr (f := ?f) ?h1 fun j hj => ?h2
      case h1 => exact (((unhide HC).set (i := k * 2) (by omega) _).set (i := k * 2 + 1) (by omega) _)
      case h2 =>
        by_cases e2 : j < k * 2
        · (repeat rw [if_neg (by omega)])
          rw [if_pos e2, if_pos (by omega)]
        · by_cases e3 : j < (k + 1) * 2
          · have hj3 : j = k * 2 ∨ j = k * 2 + 1 := by omega
            rw [if_pos e3]
            rcases hj3 with rfl | rfl
            all_goals (simp [marks] <;> omega)
          · (repeat rw [if_neg (by omega)])
    · obtain rfl : k = n := by omega
      go_wp2
      go_ret
      refine ⟨rfl, fun hp => ?_, hon⟩
      obtain ⟨b, off, ha, hC⟩ := hO hp
      exact ⟨b, off, ha, hC.congr fun j hj => by simp [hj]⟩

def PasAt (L : Nat) (w : World) (a : Option Addr) (zs : List (Int × Int × Int)) : Prop :=
  ∀ i (h : i < zs.length), ∃ b off, a = some ⟨b, off, none⟩ ∧ (L ≤ b ∧ b < w.heap.size) ∧ w.cell? ⟨b, off + i * 3, none⟩ = some (.int .i64 zs[i].1) ∧ w.cell? ⟨b, off + i * 3 + 1, none⟩ = some (.int .i64 zs[i].2.1) ∧ w.cell? ⟨b, off + i * 3 + 2, none⟩ = some (.int .i64 zs[i].2.2)
theorem PasAt.below {L : Nat} {w w' : World} {a : Option Addr} {zs : List (Int × Int × Int)} (h : PasAt L w a zs) (hb : Below w.heap.size w w') : PasAt L w' a zs := by
  intro i hi
  obtain ⟨b, off, ha, hlt, c0, c1, c2⟩ := h i hi
  exact ⟨b, off, ha, ⟨hlt.1, Nat.lt_of_lt_of_le hlt.2 hb.size⟩, (hb.cell hlt.2).trans c0, (hb.cell hlt.2).trans c1, (hb.cell hlt.2).trans c2⟩
theorem paRow_at {w : World} {base : Nat} {v : Value} {zs : List (Int × Int × Int)} (h : PaRow w base v zs) : ∃ a cap, v = .slice a zs.length cap ∧ zs.length ≤ cap ∧ PasAt base w a zs := by
  obtain ⟨a, cap, hv, hc, hx⟩ := h.shape paF_len
  refine ⟨a, cap, hv, hc, fun i hi => ?_⟩
  obtain ⟨g, rfl, hl, hcell⟩ := hx i hi
  exact ⟨g, 0, rfl, hl, by simpa [paF] using hcell 0 (by omega), by simpa [paF] using hcell 1 (by omega), by simpa [paF] using hcell 2 (by omega)⟩
theorem paRow_pas {w : World} {base : Nat} {a : Option Addr} {m cap : Nat} {zs : List (Int × Int × Int)} (h : PaRow w base (.slice a m cap) zs) : PasAt 0 w a zs := by
  obtain ⟨a', cap', hv, _, hx⟩ := paRow_at (h.mono (Nat.zero_le _))
  injection hv with h1 h2 h3
  subst h1
  exact hx
theorem paRow_own {w : World} {base : Nat} {a : Option Addr} {m cap : Nat} {zs : List (Int × Int × Int)} (h : PaRow w base (.slice a m cap) zs) : ∃ f, OwnL w a (zs.length * 3) f := ⟨_, h.own⟩

set_option maxHeartbeats 400000 in
theorem eqPass_any (p s y : Int) (w : World) :
    Calls Tryz.prog 44 #[.agg #[.int .i64 p, .int .i64 s, .int .i64 y], .agg #[.int .i64 p, .int .i64 s, .int .i64 y]] w fun e w' =>
      e = .returned (.bool true) ∧ Below w.heap.size w w' := by
  go_enter Tryz.func44, Tryz.ntmps44
  go_wp2
  go_ret
  exact ⟨rfl, bw0⟩

set_option maxHeartbeats 1000000 in
theorem eqPassS_any (a c : Option Addr) (es : List (Int × Int × Int)) (ca cc : Nat) (w : World) {L L' : Nat} (hl : es.length ≤ 1000000000) (hp : PasAt L w a es) (hq : PasAt L' w c es) :
    Calls Tryz.prog 13 #[.slice a es.length ca, .slice c es.length cc] w fun e w' =>
      e = .returned (.bool true) ∧ Below w.heap.size w w' := by
  go_enter Tryz.func13, Tryz.ntmps13
  go_wp2
  go_loopw [5] (fun i wr => ∃ (k : Nat), k ≤ es.length ∧ i = .int .i64 k ∧ Below w.heap.size w wr) (fun i _ => es.length - (intOf i).toNat)
  case atStart => exact ⟨0, Nat.zero_le _, rfl, Below.refl _ _⟩
  case round =>
    obtain ⟨k, hk, rfl, hb⟩ := hrel
    by_cases hlt : k < es.length
    · obtain ⟨b, off, rfl, hbs, c0, c1, c2⟩ := hp.below hb k hlt
      obtain ⟨b', off', rfl, hbs', c0', c1', c2'⟩ := hq.below hb k hlt
      go_wp2_with fail
      go_region_with (go_at_call 44; refine (eqPass_any _ _ _ _).mono ?_; rintro e w1 ⟨rfl, hb1⟩)
      all_goals go_wp2
      all_goals exact ⟨⟨k + 1, by omega, by go_num, below_then hb.drew hb1⟩, by simp [intOf]; omega⟩
    · go_wp2
      go_ret
      exact ⟨rfl, hb⟩

set_option maxHeartbeats 400000 in
theorem markPassS_any (a : Option Addr) (n cap : Nat) (k0 : Int) (f : Nat → Value) (w : World) (hn : n ≤ 1000000000) (h0 : 0 ≤ k0) (h1 : k0 ≤ 1000000000000000) (ho : OwnL w a (n * 3) f) :
    Calls Tryz.prog 22 #[.slice a n cap, .int .i64 k0] w fun e w' => e = .returned (.int .i64 (k0 + (n * 3 : Nat))) ∧ OwnL w' a (n * 3) (marks k0) ∧ Only (blk a) w w' := by
  go_enter Tryz.func22, Tryz.ntmps22
  go_wp2
  go_loopw [1, 5] (fun y x wr => ∃ k : Nat, k ≤ n ∧ x = .int .i64 k ∧ y = .int .i64 (k0 + (k * 3 : Nat)) ∧ OwnL wr a (n * 3) (fun j => if j < k * 3 then marks k0 j else f j) ∧ Only (blk a) w wr) (fun _ x _ => n - (intOf x).toNat)
  case atStart => exact ⟨0, Nat.zero_le _, rfl, by simp, by simpa using ho, only_refl _ _⟩
  case round =>
    obtain ⟨k, hk, rfl, rfl, hO, hon⟩ := hrel
    by_cases hlt : k < n
    · obtain ⟨b, off, rfl, hC⟩ := hO (by omega)
      have y0 := (hC.2 (k * 3) (by omega)).1
      have z0 := (hC.2 (k * 3) (by omega)).2
      have y1 := (hC.2 (k * 3 + 1) (by omega)).1
      have z1 := (hC.2 (k * 3 + 1) (by omega)).2
      have y2 := (hC.2 (k * 3 + 2) (by omega)).1
      have z2 := (hC.2 (k * 3 + 2) (by omega)).2
      simp only [← Nat.add_assoc] at y0 z0 y1 z1 y2 z2
      have HC := hide hC
      clear hC
      go_wp2
      refine ⟨⟨k + 1, by omega, by go_num, congrArg (Value.int .i64) (by omega), fun _ => ⟨b, off, rfl, ?_⟩, (((hon.trans (only_setCell _ ⟨b, off, rfl, rfl⟩ _)).trans (only_setCell _ ⟨b, off, rfl, rfl⟩ _)).trans (only_setCell _ ⟨b, off, rfl, rfl⟩ _))⟩, by simp [intOf]; omega⟩
      refine OwnC.congr (f := ?f) ?h1 fun j hj => ?h2
      case h1 => exact ((((unhide HC).set (i := k * 3) (by omega) _).set (i := k * 3 + 1) (by omega) _).set (i := k * 3 + 2) (by omega) _)
      case h2 =>
        by_cases e2 : j < k * 3
        · (repeat rw [if_neg (by omega)])
          rw [if_pos e2, if_pos (by omega)]
        · by_cases e3 : j < (k + 1) * 3
          · have hj3 : j = k * 3 ∨ j = k * 3 + 1 ∨ j = k * 3 + 2 := by omega
            rw [if_pos e3]
            rcases hj3 with rfl | rfl | rfl
            all_goals (simp [marks] <;> omega)
          · (repeat rw [if_neg (by omega)])
    · obtain rfl : k = n := by omega
      go_wp2
      go_ret
      refine ⟨rfl, fun hp => ?_, hon⟩
      obtain ⟨b, off, ha, hC⟩ := hO hp
      exact ⟨b, off, ha, hC.congr fun j hj => by simp [hj]⟩

set_option maxHeartbeats 400000 in
theorem heldPassS_any (a : Option Addr) (n cap : Nat) (k0 : Int) (w : World) (hn : n ≤ 1000000000) (h0 : 0 ≤ k0) (h1 : k0 ≤ 1000000000000000) (ho : OwnL w a (n * 3) (marks k0)) :
    Calls Tryz.prog 23 #[.slice a n cap, .int .i64 k0] w fun e w' => e = .returned (.int .i64 (k0 + (n * 3 : Nat))) ∧ w' = w := by
  go_enter Tryz.func23, Tryz.ntmps23
  go_wp2
  go_loop [1, 5] (fun y x => ∃ k : Nat, k ≤ n ∧ x = .int .i64 k ∧ y = .int .i64 (k0 + (k * 3 : Nat))) (fun _ x => n - (intOf x).toNat)
  case atStart => exact ⟨0, Nat.zero_le _, rfl, by simp⟩
  case round =>
    obtain ⟨k, hk, rfl, rfl⟩ := hrel
    by_cases hlt : k < n
    · obtain ⟨b, off, rfl, hC⟩ := ho (by omega)
      have y0 := (hC.2 (k * 3) (by omega)).1
      have y1 := (hC.2 (k * 3 + 1) (by omega)).1
      have y2 := (hC.2 (k * 3 + 2) (by omega)).1
      simp only [← Nat.add_assoc] at y0 y1 y2
      rw [show marks k0 (k * 3) = .int .i64 (k0 + ((k * 3 : Nat) : Int)) from congrArg (Value.int .i64) (by omega)] at y0
      rw [show marks k0 (k * 3 + 1) = .int .i64 (k0 + ((k * 3 : Nat) : Int) + 1) from congrArg (Value.int .i64) (by omega)] at y1
      rw [show marks k0 (k * 3 + 2) = .int .i64 (k0 + ((k * 3 : Nat) : Int) + 1 + 1) from congrArg (Value.int .i64) (by omega)] at y2
      clear hC
      go_wp2
      exact ⟨⟨k + 1, by omega, by go_num, congrArg (Value.int .i64) (by omega)⟩, by simp [intOf]; omega⟩
    · obtain rfl : k = n := by omega
      go_wp2
      go_ret
      exact ⟨rfl, rfl⟩

end Go.Proofs.YtcggkfpkkhjdhaaGreat

set_option linter.unusedSimpArgs false
namespace Go.Proofs.YtcggkfpkkhjdhaaGreat
open Go.RowKit

/-! ### What passings there are, axle by axle -/

/-- The passings of the axles. -/
def TgOf (ax : List Int) (M : List Mrk) (F : Int) (t : Tg) : Prop := 1 ≤ t.k ∧ t.k ≤ F ∧ ∃ a, ax[t.i]? = some a ∧ (⟨t.k - a, t.post, t.way⟩ : Mrk) ∈ M
theorem mlt_far {M : List Mrk} (h : M.Pairwise Mlt) (i j : Nat) (hi : i < M.length) (hj : j < M.length) (hij : i ≤ j) : M[i].far ≤ M[j].far := by
  rcases Nat.eq_or_lt_of_le hij with e | e
  · subst e; exact Int.le_refl _
  · have := List.pairwise_iff_getElem.1 h i j hi hj e
    unfold Mlt at this
    omega
/-- The marks from one place to another, in a sorted row. -/
theorem cut_mem {M : List Mrk} {lo hi : Int} {f1 f2 : Nat} (h1 : f1 ≤ M.length) (h2 : f2 ≤ M.length) (a1 : ∀ j (hj : j < M.length), j < f1 → M[j].far < lo) (b1 : ∀ j (hj : j < M.length), f1 ≤ j → lo ≤ M[j].far) (a2 : ∀ j (hj : j < M.length), j < f2 → M[j].far < hi) (b2 : ∀ j (hj : j < M.length), f2 ≤ j → hi ≤ M[j].far) (m : Mrk) :
    m ∈ (M.drop f1).take (f2 - f1) ↔ m ∈ M ∧ lo ≤ m.far ∧ m.far < hi := by
  constructor
  · intro hm
    obtain ⟨j, hj, rfl⟩ := List.getElem_of_mem hm
    rw [List.length_take, List.length_drop] at hj
    rw [List.getElem_take, List.getElem_drop]
    exact ⟨List.getElem_mem _, b1 _ (by omega) (by omega), a2 _ (by omega) (by omega)⟩
  · rintro ⟨hm, hl, hh⟩
    obtain ⟨j, hj, rfl⟩ := List.getElem_of_mem hm
    have q1 : f1 ≤ j := by
      rcases Nat.lt_or_ge j f1 with e | e
      · have := a1 j hj e; omega
      · exact e
    have q2 : j < f2 := by
      rcases Nat.lt_or_ge j f2 with e | e
      · exact e
      · have := b2 j hj e; omega
    refine List.mem_iff_getElem.2 ⟨j - f1, by rw [List.length_take, List.length_drop]; omega, ?_⟩
    rw [List.getElem_take, List.getElem_drop]
    congr 1
    omega
theorem take_sorted {M : List Mrk} (h : M.Pairwise Mlt) (a b : Nat) : ((M.drop a).take b).Pairwise Mlt := (h.sublist (List.drop_sublist _ _)).sublist (List.take_sublist _ _)
theorem incr_len : ∀ (l : List Nat) (a N : Nat), l.Pairwise (· < ·) → (∀ x ∈ l, a ≤ x ∧ x < N) → l.length ≤ N - a
  | [], a, N, _, _ => by simp
  | x :: r, a, N, hp, hb => by
    obtain ⟨h1, h2⟩ := List.pairwise_cons.1 hp
    have hx := hb x List.mem_cons_self
    have := incr_len r (x + 1) N h2 (fun y hy => ⟨h1 y hy, (hb y (List.mem_cons_of_mem _ hy)).2⟩)
    simp only [List.length_cons]
    omega
def codeT (t : Tg) : Nat := (t.k.toNat * 1000 + t.i) * 1000 + t.post.toNat
/-- There are not too many. -/
theorem tg_len {ax : List Int} {M : List Mrk} {F : Int} (hF : 0 ≤ F ∧ F ≤ 10000) (hax : ax.length ≤ 60) (hM : ∀ m ∈ M, 0 ≤ m.post ∧ m.post < 1000) {L : List Tg} (hL : L.Pairwise Tlt) (hT : ∀ t ∈ L, TgOf ax M F t) : L.length ≤ 10001000000 := by
  have hb : ∀ t ∈ L, (1 ≤ t.k ∧ t.k ≤ 10000) ∧ t.i < 1000 ∧ (0 ≤ t.post ∧ t.post < 1000) := fun t ht => by
    obtain ⟨h1, h2, a, h3, h4⟩ := hT t ht
    have h5 := (List.getElem?_eq_some_iff.1 h3).1
    have h6 := hM _ h4
    exact ⟨⟨h1, by omega⟩, by omega, h6⟩
  have := incr_len (L.map codeT) 0 10001000000 (by
    rw [List.pairwise_map]
    refine (List.Pairwise.and_mem.1 hL).imp fun {x y} ⟨hx, hy, hxy⟩ => ?_
    have h1 := hb x hx
    have h2 := hb y hy
    unfold Tlt at hxy
    unfold codeT
    omega) (fun x hx => by
    obtain ⟨t, ht, rfl⟩ := List.mem_map.1 hx
    have h1 := hb t ht
    unfold codeT
    omega)
  simpa using this
theorem Merge.same {T : Tg → Prop} {l k : List Wh} {L : List Tg} (h : Merge T l L) (hm : ∀ v, v ∈ k ↔ v ∈ l) (h2 : ∀ i j, i < k.length → j < k.length → i ≠ j → OtherAx (k.getD i noWh) (k.getD j noWh)) : Merge T k L :=
  ⟨fun w hw => h.ok w ((hm w).1 hw), h2, h.sorted, fun t ht w hw => h.later t ht w ((hm w).1 hw), fun t => by
    rw [h.all t]
    constructor
    · rintro (e | ⟨w, hw, e⟩)
      · exact Or.inl e
      · exact Or.inr ⟨w, (hm w).2 hw, e⟩
    · rintro (e | ⟨w, hw, e⟩)
      · exact Or.inl e
      · exact Or.inr ⟨w, (hm w).1 hw, e⟩⟩
theorem getD_map {α β : Type} (f : α → β) (l : List α) (d : α) (i : Nat) : (l.map f).getD i (f d) = f (l.getD i d) := by
  rw [List.getD_eq_getElem?_getD, List.getD_eq_getElem?_getD, List.getElem?_map]
  cases l[i]? <;> rfl
theorem tg_un (x : Wh) : (grpW x).map (fun m => (x.next, m.post, m.way)) = ((grpW x).map (tagM x)).map Tg.un := by
  rw [List.map_map]
  refine List.map_congr_left fun m hm => ?_
  have := grp_far m hm
  unfold Wh.next
  show _ = ((m.far + x.back), m.post, m.way)
  rw [this]

end Go.Proofs.YtcggkfpkkhjdhaaGreat

