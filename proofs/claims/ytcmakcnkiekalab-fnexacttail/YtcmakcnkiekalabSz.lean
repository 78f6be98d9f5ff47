import Derived.Test.YtcmakcnkiekalabRows
import Derived.Test.YtcmakcnkiekalabAt
import Derived.WalkSpells
namespace Go.Proofs.Ytcmakcnkiekalab
open Go.RowKit

set_option maxHeartbeats 400000 in
theorem szPiece_any (s : ByteArray) (l sp br left : Int) (w : World) (h0 : 0 ≤ left) (h1 : left ≤ 1048576) (hs : s.size ≤ maxLen) :
    Calls Try.prog 81 #[.agg #[.string s, .int .i64 l, .int .i64 sp, .int .i64 br], .int .i64 left] w fun e w' =>
      ∃ r : Int, e = .returned (.int .i64 r) ∧ r ≤ left ∧ Below w.heap.size w w' := by
  unfold maxLen at hs
  by_cases h : left - s.size < 0
  · go_enter Try.func81, Try.ntmps81
    go_wp2
    go_ret
    exact ⟨-1, rfl, by omega, (Below.refl _ _).alloc (Nat.le_refl _) _⟩
  · go_enter Try.func81, Try.ntmps81
    go_wp2
    go_ret
    exact ⟨left - s.size, rfl, by omega, (Below.refl _ _).alloc (Nat.le_refl _) _⟩

set_option maxHeartbeats 400000 in
theorem szPieceS_any (a : Option Addr) (ps : List Pc) (cap : Nat) (left : Int) (w : World) (h0 : 0 ≤ left) (h1 : left ≤ 1048576) (hl : ps.length ≤ maxLen)
    {L : Nat} (hp : PcsAt L w a ps) (hs : ∀ i (h : i < ps.length), ps[i].name.size ≤ maxLen) :
    Calls Try.prog 44 #[.slice a ps.length cap, .int .i64 left] w fun e w' =>
      ∃ r : Int, e = .returned (.int .i64 r) ∧ r ≤ left ∧ (0 ≤ r → ps.length ≤ left) ∧ Below w.heap.size w w' := by
  unfold maxLen at hl
  by_cases h : left - ps.length < 0
  · go_enter Try.func44, Try.ntmps44
    go_wp2
    go_ret
    exact ⟨-1, rfl, by omega, by omega, (Below.refl _ _)⟩
  · go_enter Try.func44, Try.ntmps44
    go_wp2
    go_loopw [1, 5] (fun l i w' => ∃ (k : Nat) (r : Int), k ≤ ps.length ∧ i = .int .i64 k ∧ l = .int .i64 r ∧ 0 ≤ r ∧ r ≤ left - ps.length ∧ Below w.heap.size w w') (fun _ i _ => ps.length - (intOf i).toNat)
    case atStart => exact ⟨0, _, Nat.zero_le _, rfl, rfl, by omega, by omega, Below.refl _ _⟩
    case round =>
      obtain ⟨k, r, hk, rfl, rfl, hr0, hr1, hb⟩ := hrel
      by_cases hlt : k < ps.length
      · obtain ⟨b, off, rfl, hbs, c0, c1, c2, c3⟩ := hp.below hb k hlt
        have hz := hs k hlt
        go_wp2_with fail
        refine (szPiece_any _ _ _ _ _ _ hr0 (by omega) hz).mono ?_
        rintro e w' ⟨r', rfl, hr', hb'⟩
        by_cases hneg : r' < 0
        · go_wp2
          go_ret
          exact ⟨-1, rfl, by omega, by omega, below_then hb hb'⟩
        · go_wp2
          go_roundw
          case rel => exact ⟨k + 1, r', by omega, by go_num, rfl, by omega, by omega, below_then hb hb'⟩
          case measure => simp [intOf]; omega
      · go_wp2
        go_ret
        exact ⟨r, rfl, by omega, by omega, hb⟩

set_option maxHeartbeats 400000 in
theorem szEndS_any (a : Option Addr) (n cap : Nat) (left : Int) (w : World) (h0 : 0 ≤ left) (h1 : left ≤ 1048576) (hl : n ≤ maxLen) :
    Calls Try.prog 119 #[.slice a n cap, .int .i64 left] w fun e w' =>
      ∃ r : Int, e = .returned (.int .i64 r) ∧ r ≤ left ∧ (0 ≤ r → n ≤ left) ∧ Below w.heap.size w w' := by
  unfold maxLen at hl
  by_cases h : left - n < 0
  · go_enter Try.func119, Try.ntmps119
    go_wp2
    go_ret
    exact ⟨-1, rfl, by omega, by omega, (Below.refl _ _)⟩
  · go_enter Try.func119, Try.ntmps119
    go_wp2
    go_ret
    exact ⟨left - n, rfl, by omega, by omega, (Below.refl _ _)⟩

set_option maxHeartbeats 400000 in
theorem szJoint_any (kd : Int) (s : ByteArray) (a : Option Addr) (n cap : Nat) (left : Int) (w : World) (h0 : 0 ≤ left) (h1 : left ≤ 1048576) (hs : s.size ≤ maxLen) (hl : n ≤ maxLen) :
    Calls Try.prog 82 #[.agg #[.int .i64 kd, .string s, .slice a n cap], .int .i64 left] w fun e w' =>
      ∃ r : Int, e = .returned (.int .i64 r) ∧ r ≤ left ∧ (0 ≤ r → n ≤ left) ∧ Below w.heap.size w w' := by
  have hl' := hl
  unfold maxLen at hs hl
  by_cases h : left - s.size < 0
  · go_enter Try.func82, Try.ntmps82
    go_wp2
    go_ret
    exact ⟨-1, rfl, by omega, by omega, (Below.refl _ _).alloc (Nat.le_refl _) _⟩
  · go_enter Try.func82, Try.ntmps82
    go_wp2_with fail
    refine (szEndS_any _ _ _ _ _ (by omega) (by omega) hl').mono ?_
    rintro e w' ⟨r', rfl, hr', hn', hb'⟩
    have hb : Below w.heap.size w w' := ((Below.refl _ _).alloc (Nat.le_refl _) _).trans (hb'.mono (by simp))
    by_cases hneg : r' < 0
    · go_wp2
      go_ret
      exact ⟨-1, rfl, by omega, by omega, hb⟩
    · go_wp2
      go_ret
      exact ⟨r', rfl, by omega, fun h => by have := hn' h; omega, hb⟩

set_option maxHeartbeats 400000 in
theorem szJointS_any (a : Option Addr) (js : List Jt) (cap : Nat) (left : Int) (w : World) (h0 : 0 ≤ left) (h1 : left ≤ 1048576) (hl : js.length ≤ maxLen)
    {L : Nat} (hp : JtsAt L w a js) (hs : ∀ i (h : i < js.length), js[i].name.size ≤ maxLen ∧ js[i].ends.length ≤ maxLen) :
    Calls Try.prog 45 #[.slice a js.length cap, .int .i64 left] w fun e w' =>
      ∃ r : Int, e = .returned (.int .i64 r) ∧ r ≤ left ∧ (0 ≤ r → js.length ≤ left ∧ ∀ i (h : i < js.length), (js[i].ends.length : Int) ≤ left) ∧ Below w.heap.size w w' := by
  unfold maxLen at hl
  by_cases h : left - js.length < 0
  · go_enter Try.func45, Try.ntmps45
    go_wp2
    go_ret
    exact ⟨-1, rfl, by omega, by omega, (Below.refl _ _)⟩
  · go_enter Try.func45, Try.ntmps45
    go_wp2
    go_loopw [1, 5] (fun l i w' => ∃ (k : Nat) (r : Int), k ≤ js.length ∧ i = .int .i64 k ∧ l = .int .i64 r ∧ 0 ≤ r ∧ r ≤ left - js.length ∧ (∀ i (h : i < js.length), i < k → (js[i].ends.length : Int) ≤ left) ∧ Below w.heap.size w w') (fun _ i _ => js.length - (intOf i).toNat)
    case atStart => exact ⟨0, _, Nat.zero_le _, rfl, rfl, by omega, by omega, fun i h h' => by omega, Below.refl _ _⟩
    case round =>
      obtain ⟨k, r, hk, rfl, rfl, hr0, hr1, hall, hb⟩ := hrel
      by_cases hlt : k < js.length
      · obtain ⟨b, off, ea, ec, rfl, hbs, c0, c1, c2, he⟩ := hp.below hb k hlt
        have hz := hs k hlt
        go_wp2_with fail
        refine (szJoint_any _ _ _ _ _ _ _ hr0 (by omega) hz.1 hz.2).mono ?_
        rintro e w' ⟨r', rfl, hr', hn', hb'⟩
        by_cases hneg : r' < 0
        · go_wp2
          go_ret
          exact ⟨-1, rfl, by omega, by omega, below_then hb hb'⟩
        · go_wp2
          go_roundw
          case rel =>
            refine ⟨k + 1, r', by omega, by go_num, rfl, by omega, by omega, fun i h h' => ?_, below_then hb hb'⟩
            by_cases e : i = k
            · subst e; have := hn' (by omega); omega
            · exact hall i h (by omega)
          case measure => simp [intOf]; omega
      · go_wp2
        go_ret
        exact ⟨r, rfl, by omega, fun _ => ⟨by omega, fun i h => hall i h (by omega)⟩, hb⟩

set_option maxHeartbeats 400000 in
theorem szNet_any (a c : Option Addr) (ps : List Pc) (js : List Jt) (ca cc : Nat) (left : Int) (w : World) (h0 : 0 ≤ left) (h1 : left ≤ 1048576)
    (hl : ps.length ≤ maxLen) {L : Nat} (hp : PcsAt L w a ps) (hs : ∀ i (h : i < ps.length), ps[i].name.size ≤ maxLen)
    (hl' : js.length ≤ maxLen) (hp' : JtsAt L w c js) (hs' : ∀ i (h : i < js.length), js[i].name.size ≤ maxLen ∧ js[i].ends.length ≤ maxLen) :
    Calls Try.prog 9 #[.agg #[.slice a ps.length ca, .slice c js.length cc], .int .i64 left] w fun e w' =>
      ∃ r : Int, e = .returned (.int .i64 r) ∧ r ≤ left ∧ (0 ≤ r → ps.length ≤ left ∧ js.length ≤ left ∧ ∀ i (h : i < js.length), (js[i].ends.length : Int) ≤ left) ∧ Below w.heap.size w w' := by
  have hb0 : Below w.heap.size w (w.alloc (.cells #[.slice a ps.length ca, .slice c js.length cc] 25)) := (Below.refl _ _).alloc (Nat.le_refl _) _
  have hpA := hp.below hb0
  have hjA := hp'.below hb0
  go_enter Try.func9, Try.ntmps9
  go_wp2_with fail
  refine (szPieceS_any _ _ _ _ _ h0 h1 hl hpA hs).mono ?_
  rintro e w1 ⟨r1, rfl, hr1, hn1, hb1⟩
  have hb1' := below_then hb0 hb1
  have hc : w1.cell? ⟨w.heap.size, 1, none⟩ = some (.slice c js.length cc) := by
    rw [hb1.cell (by simp)]; simp
  by_cases hneg : r1 < 0
  · go_wp2
    go_ret
    exact ⟨-1, rfl, by omega, by omega, hb1'⟩
  · have hjB := hjA.below hb1
    go_wp2_with fail
    refine (szJointS_any _ _ _ _ _ (by omega) (by omega) hl' hjB hs').mono ?_
    rintro e w2 ⟨r2, rfl, hr2, hn2, hb2⟩
    have hb2' := below_then hb1' hb2
    by_cases hneg2 : r2 < 0
    · go_wp2
      go_ret
      exact ⟨-1, rfl, by omega, by omega, hb2'⟩
    · go_wp2
      go_ret
      refine ⟨r2, rfl, by omega, fun h => ?_, hb2'⟩
      have h3 := hn1 (by omega)
      have h4 := hn2 h
      exact ⟨h3, by omega, fun i hi => by have := h4.2 i hi; omega⟩

end Go.Proofs.Ytcmakcnkiekalab
