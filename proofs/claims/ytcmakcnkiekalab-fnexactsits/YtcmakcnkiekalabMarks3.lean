import Derived.Test.YtcmakcnkiekalabMarks2
import Derived.Laws.BytesArg
import Derived.Deep.Slices
namespace Go.Proofs.Ytcmakcnkiekalab
open Go.RowKit

/-- An answer that is a text. -/
def RetS (e : Ending) : Prop := ∃ s, e = .returned (.string s)

set_option maxRecDepth 100000 in
set_option maxHeartbeats 400000 in
theorem markText_any (k0 : Int) (w : World) (h1 : k0 ≤ 2000000000000000) :
    Calls Try.prog 116 #[.int .i64 k0] w fun e w' => RetS e ∧ Below w.heap.size w w' := by
  by_cases h0 : k0 ≤ 0
  · go_enter Try.func116, Try.ntmps116
    go_wp2
    go_ret
    exact ⟨⟨_, rfl⟩, Below.refl _ _⟩
  · go_enter Try.func116, Try.ntmps116
    go_wp2
    go_loopw [0, 3] (fun x y wr => ∃ (j : Int) (s : ByteArray), 0 ≤ j ∧ x = .int .i64 j ∧ y = .string s ∧ (s.size : Int) + j ≤ k0 ∧ Below w.heap.size w wr) (fun x _ _ => (intOf x).toNat)
    case atStart => exact ⟨k0, ⟨#[]⟩, by omega, rfl, rfl, by show (0 : Int) + k0 ≤ k0; omega, Below.refl _ _⟩
    case round =>
      obtain ⟨j, s, hj, rfl, rfl, hs, hb⟩ := hrel
      by_cases hlt : 0 < j
      · have hcv := run_convert_bytes_arg (P := Try.prog) (wr.alloc (.cells #[.int .u8 (48 + j % 10)] 5)) 129 5 (by kernel_rfl) (by kernel_rfl) wr.heap.size 0 1 1 [48 + j % 10] rfl
          (fun i hi => by obtain rfl : i = 0 := by omega
                          simp) 9 (by kernel_rfl)
        have hd : (strOfNums [48 + j % 10]).size = 1 := rfl
        have HD := hide hd
        have hlim : ¬ 9223372036854775807 < (strOfNums [48 + j % 10]).size + s.size := by rw [hd]; omega
        clear hd
        have hsz := hb.size
        go_wp2
        refine ⟨⟨j / 10, _, by omega, rfl, rfl, ?_, (by repeat (first | with_reducible exact Below.refl _ _ | with_reducible exact hb | refine Below.setCell ?_ (by first | omega | (simp <;> omega) | (simp [World.setCell] <;> omega)) _ | refine Below.alloc ?_ (by first | omega | (simp <;> omega) | (simp [World.setCell] <;> omega)) _ | refine Below.drew ?_ | refine below_draws ?_ _ | exact hb | exact Below.refl _ _))⟩, by simp [intOf]; omega⟩
        rw [ByteArray.size_append, unhide HD]
        omega
      · have hlim : ¬ 9223372036854775807 < 1 + s.size := by omega
        go_wp2
        go_ret
        exact ⟨⟨_, rfl⟩, hb⟩

set_option maxHeartbeats 1000000 in
theorem markPieceS_any (b n cap : Nat) (k0 : Int) (w : World) (hn : n ≤ 1048576) (h0 : 0 ≤ k0) (h1 : k0 ≤ 1000000000000) (ho : ∃ f, w.rowIs b 125 (n * 4) f) :
    Calls Try.prog 72 #[.slice (some ⟨b, 0, none⟩) n cap, .int .i64 k0] w fun e w' => e = .returned (.int .i64 (k0 + (n * 4 : Nat))) ∧ Only (fun k => k = b) w w' := by
  go_enter Try.func72, Try.ntmps72
  go_wp2
  go_loopw [1, 5] (fun y x wr => ∃ k : Nat, k ≤ n ∧ x = .int .i64 k ∧ y = .int .i64 (k0 + (k * 4 : Nat)) ∧ Only (fun k => k = b) w wr) (fun _ x _ => n - (intOf x).toNat)
  case atStart => exact ⟨0, Nat.zero_le _, rfl, by simp, only_refl _ _⟩
  case round =>
    obtain ⟨k, hk, rfl, rfl, hon⟩ := hrel
    by_cases hlt : k < n
    · go_wp2_with fail
      refine (markText_any _ _ (by omega)).mono ?_
      rintro e w1 ⟨⟨s, rfl⟩, hb1⟩
      have hon1 : Only (fun k => k = b) w w1 := hon.trans (only_of_below hb1)
      obtain ⟨f, hrow⟩ := hon1.row ho
      have z0 := hrow.frozen (k * 4)
      have z1 := hrow.frozen (k * 4 + 1)
      have z2 := hrow.frozen (k * 4 + 2)
      have z3 := hrow.frozen (k * 4 + 3)
      have y0 := hrow.cell (i := k * 4) (by omega)
      have y1 := hrow.cell (i := k * 4 + 1) (by omega)
      have y2 := hrow.cell (i := k * 4 + 2) (by omega)
      have y3 := hrow.cell (i := k * 4 + 3) (by omega)
      clear hrow
      go_wp2
      exact ⟨⟨k + 1, by omega, by go_num, congrArg (Value.int .i64) (by omega), (((hon1.trans (only_setCell (S := fun k => k = b) _ rfl _)).trans (only_setCell (S := fun k => k = b) _ rfl _)).trans (only_setCell (S := fun k => k = b) _ rfl _)).trans (only_setCell (S := fun k => k = b) _ rfl _)⟩, by simp [intOf]; omega⟩
    · obtain rfl : k = n := by omega
      go_wp2
      go_ret
      exact ⟨rfl, hon⟩

set_option maxHeartbeats 1000000 in
theorem markJointS_any (b n cap : Nat) (k0 : Int) (f : Nat → Value) (E : Nat → Option Addr) (l : Nat → Nat) (w : World) (hn : n ≤ 1048576) (h0 : 0 ≤ k0) (h1 : k0 ≤ 1000000000000) (ho : w.rowIs b 142 (n * 3) f)
    (hE : ∀ i, i < n → f (i * 3 + 2) = .slice (E i) (l i) (l i) ∧ l i ≤ 1048576 ∧ ∃ eb, E i = some ⟨eb, 0, none⟩ ∧ ∃ g, w.rowIs eb 156 (l i * 2) g) :
    Calls Try.prog 73 #[.slice (some ⟨b, 0, none⟩) n cap, .int .i64 k0] w fun e w' => ∃ r : Int, e = .returned (.int .i64 r) ∧ k0 ≤ r ∧ r ≤ k0 + n * 3000000 ∧ Only (fun k => k = b ∨ ∃ i, i < n ∧ blk (E i) k) w w' := by
  go_enter Try.func73, Try.ntmps73
  go_wp2
  go_loopw [1, 5] (fun y x wr => ∃ (k : Nat) (r : Int) (f' : Nat → Value), k ≤ n ∧ x = .int .i64 k ∧ y = .int .i64 r ∧ k0 ≤ r ∧ r ≤ k0 + k * 3000000 ∧ wr.rowIs b 142 (n * 3) f' ∧ (∀ i, i < n → f' (i * 3 + 2) = f (i * 3 + 2)) ∧ Only (fun k => k = b ∨ ∃ i, i < n ∧ blk (E i) k) w wr) (fun _ x _ => n - (intOf x).toNat)
  case atStart => exact ⟨0, k0, f, Nat.zero_le _, rfl, rfl, by omega, by omega, ho, fun i _ => rfl, only_refl _ _⟩
  case round =>
    obtain ⟨k, r, f', hk, rfl, rfl, hr0, hr1, hrow, hf', hon⟩ := hrel
    by_cases hlt : k < n
    · obtain ⟨e2, hl2, eb, heb, hg⟩ := hE k hlt
      have z0 := hrow.frozen (k * 3)
      have y0 := hrow.cell (i := k * 3) (by omega)
      have y1 := hrow.cell (i := k * 3 + 1) (by omega)
      have y2 := hrow.cell (i := k * 3 + 2) (by omega)
      rw [hf' k hlt, e2, heb] at y2
      have hM := hrow.lt
      have HROW := hide hrow
      have HEB := hide heb
      clear hrow e2 heb
      go_wp2_with fail
      refine (markText_any _ _ (by omega)).mono ?_
      rintro e w1 ⟨⟨s, rfl⟩, hb1⟩
      have hrow1 : w1.rowIs b 142 (n * 3) _ := ((unhide HROW).set (k * 3) (.int .i64 r)).of_block (hb1.block b (by simpa [World.setCell] using hM))
      have hon1 : Only (fun k => k = b ∨ ∃ i, i < n ∧ blk (E i) k) w w1 := (hon.trans (only_setCell (p := ⟨b, k * 3, none⟩) _ (Or.inl rfl) _)).trans (only_of_below hb1)
      have z1 := hrow1.frozen (k * 3 + 1)
      have y1' := hrow1.cell (i := k * 3 + 1) (by omega)
      have y2' := hrow1.cell (i := k * 3 + 2) (by omega)
      rw [if_neg (by omega), hf' k hlt, (hE k hlt).1, unhide HEB] at y2'
      have HROW1 := hide hrow1
      clear hrow1
      go_wp2_with fail
      have hrow2 := (unhide HROW1).set (k * 3 + 1) (.string s)
      have hon2 := hon1.trans (only_setCell (p := ⟨b, k * 3 + 1, none⟩) w1 (Or.inl rfl) (.string s))
      obtain ⟨g2, hg2⟩ := hon2.row hg
      refine (markEndS_any _ (l k) _ _ g2 _ hl2 (by omega) (by omega) (fun _ => ⟨eb, 0, rfl, own_row hg2⟩)).mono ?_
      rintro e w2 ⟨rfl, _, hon3⟩
      have hne : b ≠ eb := rows_apart hrow2 hg2 (by decide)
      have hrow3 := hrow2.of_block (hon3.block b hrow2.lt (fun ⟨b', off', h1, h2⟩ => hne (by have h3 := congrArg Addr.block (Option.some.inj h1); dsimp only at h3; omega)))
      have hon4 : Only (fun k => k = b ∨ ∃ i, i < n ∧ blk (E i) k) w w2 := hon2.trans (hon3.mono (fun j _ ⟨b', off', h1, h2⟩ => Or.inr ⟨k, hlt, b', off', by rw [unhide HEB]; exact h1, h2⟩))
      have HROW3 := hide hrow3
      clear hrow2 hrow3 hg2
      go_wp2
      refine ⟨⟨k + 1, _, _, by omega, by go_num, rfl, by omega, by omega, unhide HROW3, fun i hi => ?_, hon4⟩, by simp [intOf]; omega⟩
      rw [if_neg (by omega), if_neg (by omega)]
      exact hf' i hi
    · obtain rfl : k = n := by omega
      go_wp2
      go_ret
      exact ⟨r, rfl, hr0, hr1, hon⟩

set_option maxHeartbeats 1000000 in
theorem markNet_any (v : Value) (n : Nt) (L U : Nat) (k0 : Int) (w : World) (hv : NetOwn L U w v n) (hl : n.pieces.length ≤ 1048576) (hl' : n.joints.length ≤ 1048576) (hle : ∀ i (h : i < n.joints.length), n.joints[i].ends.length ≤ 1048576) (h0 : 0 ≤ k0) (h1 : k0 ≤ 100000000000) :
    Calls Try.prog 30 #[v, .int .i64 k0] w fun e w' => ∃ r : Int, e = .returned (.int .i64 r) ∧ k0 ≤ r ∧ r ≤ k0 + 5000000000000 ∧ Only (fun k => L ≤ k ∧ k < U) w w' := by
  obtain ⟨a, c, rfl, ⟨pb, pf, rfl, hpb, hprow, _⟩, ⟨jb, jf, rfl, hjb, hjrow, hjf⟩⟩ := hv
  have hb0 : Below w.heap.size w (w.alloc (.cells #[.slice (some ⟨pb, 0, none⟩) n.pieces.length n.pieces.length, .slice (some ⟨jb, 0, none⟩) n.joints.length n.joints.length] 38)) := (by repeat (first | with_reducible exact Below.refl _ _ | refine Below.setCell ?_ (by first | omega | (simp <;> omega) | (simp [World.setCell] <;> omega)) _ | refine Below.alloc ?_ (by first | omega | (simp <;> omega) | (simp [World.setCell] <;> omega)) _ | refine Below.drew ?_ | refine below_draws ?_ _ | exact Below.refl _ _))
  have hne : pb ≠ jb := rows_apart hprow hjrow (by decide)
  have HP : Hid (∃ f, (w.alloc (.cells #[.slice (some ⟨pb, 0, none⟩) n.pieces.length n.pieces.length, .slice (some ⟨jb, 0, none⟩) n.joints.length n.joints.length] 38)).rowIs pb 125 (n.pieces.length * 4) f) := ⟨pf, hprow.alloc _⟩
  have HJ := hide hjrow
  have HJF := hide hjf
  have hjlt := hjrow.lt
  have hplt := hprow.lt
  clear hprow hjrow hjf
  go_enter Try.func30, Try.ntmps30
  go_wp2_with fail
  refine (markPieceS_any pb _ _ _ _ hl h0 (by omega) (unhide HP)).mono ?_
  rintro e w1 ⟨rfl, hon1⟩
  have hj1 : w1.rowIs jb 142 (n.joints.length * 3) jf := (unhide HJ).of_block ((hon1.block jb (by simp; omega) (fun e => hne e.symm)).trans (hb0.block jb hjlt))
  have hs1 := hon1.size
  simp at hs1
  have hx1 : w1.cell? ⟨w.heap.size, 1, none⟩ = some (.slice (some ⟨jb, 0, none⟩) n.joints.length n.joints.length) := by
    have hblk := hon1.block w.heap.size (by simp) (by omega)
    rw [World.cell?_of_block (w := w.alloc _) (a := ⟨w.heap.size, 1, none⟩) hblk]
    simp
  have honw : Only (fun k => L ≤ k ∧ k < U) w w1 := (only_of_below hb0).trans (hon1.mono fun k _ hk => by subst hk; exact hpb)
  have HJ1 := hide hj1
  clear hj1
  go_wp2_with fail
  haveI : Inhabited (Option Addr) := ⟨none⟩
  obtain ⟨E, hE⟩ : ∃ E : Nat → Option Addr, ∀ i (h : i < n.joints.length), jf (i * 3 + 2) = .slice (E i) n.joints[i].ends.length n.joints[i].ends.length ∧ EdsOwn L U w (E i) n.joints[i].ends := by
    obtain ⟨E, hE⟩ := Deep.choose_lt (n := n.joints.length) (p := fun i (ea : Option Addr) => ∀ h : i < n.joints.length, jf (i * 3 + 2) = .slice ea n.joints[i].ends.length n.joints[i].ends.length ∧ EdsOwn L U w ea n.joints[i].ends) (fun i hi => by
      obtain ⟨ea, _, _, h2, h3⟩ := unhide HJF i hi hi
      exact ⟨ea, fun _ => ⟨h2, h3⟩⟩)
    exact ⟨E, fun i h => hE i h h⟩
  refine (markJointS_any jb _ _ _ jf E (fun i => (n.joints[i]?.map fun j => j.ends.length).getD 0) _ hl' (by omega) (by omega) (unhide HJ1) (fun i hi => ?_)).mono ?_
  · obtain ⟨h2, h3⟩ := hE i hi
    obtain ⟨eb, ef, ha, hb, hrow, _⟩ := h3
    simp only [List.getElem?_eq_getElem hi, Option.map_some, Option.getD_some]
    exact ⟨h2, hle i hi, eb, ha, honw.row ⟨ef, hrow⟩⟩
  rintro e w2 ⟨r, rfl, hr0, hr1, hon2⟩
  go_wp2
  go_ret
  refine ⟨r, rfl, by omega, by omega, honw.trans (hon2.mono fun k _ hk => ?_)⟩
  rcases hk with rfl | ⟨i, hi, b', off', hb', rfl⟩
  · exact hjb
  · obtain ⟨_, eb, ef, ha, hb, _⟩ := hE i hi
    rw [ha] at hb'
    simp at hb'
    rw [← hb'.1]
    exact hb
end Go.Proofs.Ytcmakcnkiekalab
