import Derived.Test.YtcmakcnkiekalabTo
namespace Go.Proofs.Ytcmakcnkiekalab
open Go.RowKit

/-- Of what was there only the blocks of S may have turned, and these in what their cells hold alone. -/
structure Only (S : Nat → Prop) (w w' : World) : Prop where
  os : w'.os = w.os
  tape : w'.tape = w.tape
  output : w'.output = w.output
  size : w.heap.size ≤ w'.heap.size
  block : ∀ k, k < w.heap.size → ¬ S k → w'.heap[k]? = w.heap[k]?
  shape : ∀ (k : Nat) (c : Array Value) (t : TypeId) (fr : Nat × Nat), w.heap[k]? = some (Obj.cells c t fr) → ∃ c' : Array Value, w'.heap[k]? = some (Obj.cells c' t fr) ∧ c'.size = c.size

theorem only_refl (S : Nat → Prop) (w : World) : Only S w w := ⟨rfl, rfl, rfl, Nat.le_refl _, fun _ _ _ => rfl, fun _ c _ _ h => ⟨c, h, rfl⟩⟩
theorem Only.trans {S : Nat → Prop} {a b c : World} (h : Only S a b) (k : Only S b c) : Only S a c :=
  ⟨k.os.trans h.os, k.tape.trans h.tape, k.output.trans h.output, Nat.le_trans h.size k.size, fun i hi hs => (k.block i (Nat.lt_of_lt_of_le hi h.size) hs).trans (h.block i hi hs),
   fun i c t fr hc => by
     obtain ⟨c1, h1, e1⟩ := h.shape i c t fr hc
     obtain ⟨c2, h2, e2⟩ := k.shape i c1 t fr h1
     exact ⟨c2, h2, e2.trans e1⟩⟩
theorem Only.mono {S T : Nat → Prop} {a b : World} (h : Only S a b) (hST : ∀ k, k < a.heap.size → S k → T k) : Only T a b :=
  ⟨h.os, h.tape, h.output, h.size, fun i hi hs => h.block i hi fun hk => hs (hST i hi hk), h.shape⟩
theorem only_of_below {S : Nat → Prop} {w w' : World} (h : Below w.heap.size w w') : Only S w w' :=
  ⟨h.os, h.tape, h.output, h.size, fun k hk _ => h.block k hk, fun k c t fr hc => by
    obtain ⟨hlt, _⟩ := Array.getElem?_eq_some_iff.1 hc
    exact ⟨c, (h.block k hlt).trans hc, rfl⟩⟩
theorem only_setCell {S : Nat → Prop} (w : World) {p : Addr} (hp : S p.block) (v : Value) : Only S w (w.setCell p v) :=
  ⟨rfl, rfl, rfl, by simp [World.setCell], fun k _ hs => Below.heap_setCell w p v k fun e => hs (e ▸ hp), fun k c t fr hc => by
    by_cases e : k = p.block
    · subst e
      refine ⟨if p.spot.isSome = true then c else c.setIfInBounds p.off v, ?_, by split <;> simp⟩
      simp [World.setCell, Array.getElem?_modify, hc]
    · exact ⟨c, (Below.heap_setCell w p v k e).trans hc, rfl⟩⟩
/-- A row stays a row. -/
theorem Only.row {S : Nat → Prop} {w w' : World} (h : Only S w w') {b t m : Nat} (hr : ∃ f, w.rowIs b t m f) : ∃ f, w'.rowIs b t m f := by
  obtain ⟨f, c, hb, hn, _⟩ := hr
  obtain ⟨c', hb', hn'⟩ := h.shape b c t (0, 0) hb
  exact ⟨fun i => c'[i]?.getD undef, c', hb', hn'.trans hn, fun i hi => by simp [show i < c'.size by omega]⟩
/-- Two rows of two types lie in two blocks. -/
theorem rows_apart {w : World} {b b' t t' m m' : Nat} {f f' : Nat → Value} (h : w.rowIs b t m f) (h' : w.rowIs b' t' m' f') (ht : t ≠ t') : b ≠ b' := by
  rintro rfl
  obtain ⟨c, hb, _⟩ := h
  obtain ⟨c', hb', _⟩ := h'
  rw [hb] at hb'
  simp at hb'
  exact ht hb'.2
theorem Only.below {S : Nat → Prop} {w w' : World} {B : Nat} (h : Only S w w') (hB : B ≤ w.heap.size) (hS : ∀ k, k < B → ¬ S k) : Below B w w' :=
  ⟨h.os, h.tape, h.output, h.size, fun k hk => h.block k (by omega) (hS k hk)⟩
theorem Only.stays {S : Nat → Prop} {w w' : World} {L U : Nat} (h : Only S w w') (hU : U ≤ w.heap.size) (hS : ∀ k, L ≤ k → k < U → ¬ S k) : Stays L U w w' :=
  fun k h1 h2 => h.block k (by omega) (hS k h1 h2)

/-- m cells of block b from off on, that may be written, and what they hold. -/
def OwnC (w : World) (b off m : Nat) (f : Nat → Value) : Prop := b < w.heap.size ∧ ∀ j, j < m → w.cell? ⟨b, off + j, none⟩ = some (f j) ∧ w.frozen? ⟨b, off + j, none⟩ = false

theorem OwnC.set {w : World} {b off m : Nat} {f : Nat → Value} (h : OwnC w b off m f) {i : Nat} (hi : i < m) (v : Value) : OwnC (w.setCell ⟨b, off + i, none⟩ v) b off m (fun j => if j = i then v else f j) := by
  refine ⟨by simpa [World.setCell] using h.1, fun j hj => ⟨?_, by simpa using (h.2 j hj).2⟩⟩
  by_cases e : j = i
  · subst e
    rw [World.cell?_setCell_same _ _ _ (h.2 j hj).1]
    simp
  · rw [World.cell?_setCell_other _ _ _ _ (by simp <;> omega)]
    simpa [e] using (h.2 j hj).1
theorem OwnC.of_block {w w' : World} {b off m : Nat} {f : Nat → Value} (h : OwnC w b off m f) (e : w'.heap[b]? = w.heap[b]?) (hs : w.heap.size ≤ w'.heap.size) : OwnC w' b off m f :=
  ⟨Nat.lt_of_lt_of_le h.1 hs, fun j hj => ⟨(World.cell?_of_block (w := w) (a := ⟨b, off + j, none⟩) e).trans (h.2 j hj).1, (World.frozen?_of_block (w := w) (a := ⟨b, off + j, none⟩) e).trans (h.2 j hj).2⟩⟩
theorem OwnC.below {w w' : World} {b off m : Nat} {f : Nat → Value} (h : OwnC w b off m f) (hb : Below w.heap.size w w') : OwnC w' b off m f := h.of_block (hb.block b h.1) hb.size
theorem OwnC.congr {w : World} {b off m : Nat} {f g : Nat → Value} (h : OwnC w b off m f) (e : ∀ j, j < m → f j = g j) : OwnC w b off m g :=
  ⟨h.1, fun j hj => ⟨by rw [← e j hj]; exact (h.2 j hj).1, (h.2 j hj).2⟩⟩
theorem own_row {w : World} {b t m : Nat} {f : Nat → Value} (h : w.rowIs b t m f) : OwnC w b 0 m f :=
  ⟨h.lt, fun j hj => ⟨by simpa using h.cell hj, by simpa using h.frozen j⟩⟩

/-- A list's cells, owned: none, or in one block. -/
def OwnL (w : World) (a : Option Addr) (m : Nat) (f : Nat → Value) : Prop := 0 < m → ∃ b off, a = some ⟨b, off, none⟩ ∧ OwnC w b off m f
/-- The block of a list. -/
def blk (a : Option Addr) (k : Nat) : Prop := ∃ b off, a = some ⟨b, off, none⟩ ∧ k = b
def marks (k0 : Int) (j : Nat) : Value := .int .i64 (k0 + j)

set_option maxHeartbeats 400000 in
theorem markIntS_any (a : Option Addr) (n cap : Nat) (k0 : Int) (f : Nat → Value) (w : World) (hn : n ≤ 1048576) (h0 : 0 ≤ k0) (h1 : k0 ≤ 1000000000000000) (ho : OwnL w a n f) :
    Calls Try.prog 31 #[.slice a n cap, .int .i64 k0] w fun e w' => e = .returned (.int .i64 (k0 + n)) ∧ OwnL w' a n (marks k0) ∧ Only (blk a) w w' := by
  go_enter Try.func31, Try.ntmps31
  go_wp2
  go_loopw [1, 5] (fun y x wr => ∃ k : Nat, k ≤ n ∧ x = .int .i64 k ∧ y = .int .i64 (k0 + k) ∧ OwnL wr a n (fun j => if j < k then marks k0 j else f j) ∧ Only (blk a) w wr) (fun _ x _ => n - (intOf x).toNat)
  case atStart => exact ⟨0, Nat.zero_le _, rfl, by simp, by simpa using ho, only_refl _ _⟩
  case round =>
    obtain ⟨k, hk, rfl, rfl, hO, hon⟩ := hrel
    by_cases hlt : k < n
    · obtain ⟨b, off, rfl, hC⟩ := hO (by omega)
      have y0 := (hC.2 k hlt).1
      have z0 := (hC.2 k hlt).2
      have HC := hide hC
      clear hC
      go_wp2
      refine ⟨⟨k + 1, by omega, by go_num, ?_, fun _ => ⟨b, off, rfl, ((unhide HC).set hlt _).congr fun j hj => ?_⟩, hon.trans (only_setCell _ ⟨b, off, rfl, rfl⟩ _)⟩, by simp [intOf]; omega⟩
      · exact congrArg (Value.int .i64) (by omega)
      · by_cases e : j = k
        · subst e; simp [marks]
        · by_cases e2 : j < k
          · simp [e, e2, show j < k + 1 by omega]
          · simp [e, e2, show ¬ j < k + 1 by omega]
    · obtain rfl : k = n := by omega
      go_wp2
      go_ret
      refine ⟨rfl, fun hp => ?_, hon⟩
      obtain ⟨b, off, ha, hC⟩ := hO hp
      exact ⟨b, off, ha, hC.congr fun j hj => by simp [hj]⟩

end Go.Proofs.Ytcmakcnkiekalab
