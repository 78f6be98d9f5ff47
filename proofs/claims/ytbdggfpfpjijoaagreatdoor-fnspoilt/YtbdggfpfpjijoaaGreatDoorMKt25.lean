import Derived.Test.YtbdggfpfpjijoaaGreatDoorMKt22
import Derived.Test.YtbdggfpfpjijoaaGreatDoorMKt12
namespace Go.Proofs.YtbdggfpfpjijoaaGreatDoor
open Go.RowKit

def RingC (w : World) (B o fs : Nat) (xs : List St) : Prop :=
 ∃ f : Nat → Value, OwnC w B o 404 f ∧ fs < 201 ∧ xs.length ≤ 201 ∧ f 402 = .int .i64 fs ∧ f 403 = .int .i64 xs.length
  ∧ ∀ i, i < xs.length → f (((fs + i) % 201) * 2) = .int .i64 (xs.getD i ⟨0, 0⟩).piece ∧ f (((fs + i) % 201) * 2 + 1) = .int .i64 (xs.getD i ⟨0, 0⟩).way

theorem RingC.lt {w : World} {B o fs : Nat} {xs : List St} (h : RingC w B o fs xs) : B < w.heap.size := by
 obtain ⟨f, ho, _⟩ := h
 exact ho.1
theorem RingC.below {w w' : World} {B o fs : Nat} {xs : List St} (h : RingC w B o fs xs) (hb : Below w.heap.size w w') : RingC w' B o fs xs := by
 obtain ⟨f, ho, hr⟩ := h
 exact ⟨f, ho.below hb, hr⟩
theorem RingC.only {w w' : World} {B o fs C : Nat} {xs : List St} (h : RingC w B o fs xs) (ho : Only (fun k => k = C) w w') (hb : B ≠ C) : RingC w' B o fs xs := by
 obtain ⟨f, hf, hr⟩ := h
 exact ⟨f, hf.only ho hb, hr⟩
theorem RingC.cells {w : World} {B o fs : Nat} {xs : List St} (h : RingC w B o fs xs) : w.cell? ⟨B, o + 402, none⟩ = some (.int .i64 fs) ∧ w.cell? ⟨B, o + 403, none⟩ = some (.int .i64 xs.length) ∧ (∀ j, j < 404 → w.frozen? ⟨B, o + j, none⟩ = false) ∧ fs < 201 ∧ xs.length ≤ 201 := by
 obtain ⟨f, ho, h1, h2, h3, h4, _⟩ := h
 refine ⟨?_, ?_, fun j hj => (ho.2 j hj).2, h1, h2⟩
 ·rw [(ho.2 402 (by omega)).1, h3]
 ·rw [(ho.2 403 (by omega)).1, h4]
theorem GB.ring {w : World} {B : Nat} {k0 k1 k2 : Value} {s : Sp} {long sp : Int} {xs : List St} (h : GB w B k0 k1 k2 s long sp xs) : ∃ fs, RingC w B 8 fs xs := by
 obtain ⟨f, fs, ho, hi⟩ := h
 refine ⟨fs, fun j => f (8 + j), ⟨ho.1, fun j hj => ?_⟩, hi.lt, hi.few, ?_, ?_, fun i hx => ?_⟩
 ·have := ho.2 (8 + j) (by omega)
  simpa using this
 ·show f (8 + 402) = _
  exact hi.c410
 ·show f (8 + 403) = _
  exact hi.c411
 ·exact hi.ring i hx

set_option maxRecDepth 100000 in
set_option maxHeartbeats 2000000 in
theorem ringAtC_any (B o i fs m : Nat) (x : St) (w : World) (hB : B < w.heap.size) (c0 : w.cell? ⟨B, o + 402, none⟩ = some (.int .i64 fs)) (hfs : fs < 201) (hi : i ≤ 201) (hm : (fs + i) % 201 = m)
  (d0 : w.cell? ⟨B, o + m * 2, none⟩ = some (.int .i64 x.piece)) (d1 : w.cell? ⟨B, o + m * 2 + 1, none⟩ = some (.int .i64 x.way)) :
  Calls Tryz.prog 94 #[.pointer (some ⟨B, o, none⟩), .int .i64 i] w fun e w' => e = .returned (.agg #[.int .i64 x.piece, .int .i64 x.way]) ∧ Below w.heap.size w w' := by
 have hm2 : m < 201 := by omega
 have HM := hide hm
 have hix : (m : Int) < 201 := by omega
 have f1 : ¬ B = w.heap.size := by omega
 have f2 : ¬ w.heap.size = B := by omega
 have HC : Hid ((w.alloc (.cells #[.int .i64 0, .int .i64 0] 84)).drew.cell? ⟨B, o + 402, none⟩ = some (.int .i64 fs)) := by
  unfold Hid
  rw [(Below.drew (Below.alloc (Below.refl w.heap.size w) (Nat.le_refl _) _)).cell hB]
  exact c0
 clear hm c0
 go_enter Tryz.func94, Tryz.ntmps94
 go_wp2_with fail
 go_region_held3 (fun w' => w'.cell? ⟨B, o + m * 2, none⟩ = some (.int .i64 x.piece) ∧ w'.cell? ⟨B, o + m * 2 + 1, none⟩ = some (.int .i64 x.way)) (((try dsimp only); (repeat' apply And.intro)) <;> (go_keep; done))
  (first
   | (go_at_call 148; refine (place_any B o fs i _ (unhide HC) (by omega) (by omega)).mono ?_; rintro e w1 ⟨rfl, rfl⟩; rw [unhide HM]))
 go_wp2
 exact bodyPost_ret (v := .agg #[.int .i64 x.piece, .int .i64 x.way]) (by simp [results, Tryz.results94, go_sem]) rfl ⟨rfl, bw0⟩

theorem RingC.at {w : World} {B o fs : Nat} {xs : List St} (h : RingC w B o fs xs) {i : Nat} (hi : i < xs.length) :
  w.cell? ⟨B, o + ((fs + i) % 201) * 2, none⟩ = some (.int .i64 (xs.getD i ⟨0, 0⟩).piece) ∧ w.cell? ⟨B, o + ((fs + i) % 201) * 2 + 1, none⟩ = some (.int .i64 (xs.getD i ⟨0, 0⟩).way) := by
 obtain ⟨f, ho, _, _, _, _, hring⟩ := h
 have hm : (fs + i) % 201 < 201 := Nat.mod_lt _ (by omega)
 have hr := hring i hi
 exact ⟨by rw [(ho.2 (((fs + i) % 201) * 2) (by omega)).1, hr.1], by rw [Nat.add_assoc, (ho.2 (((fs + i) % 201) * 2 + 1) (by omega)).1, hr.2]⟩

theorem RingC.drop {w : World} {B o fs : Nat} {xs : List St} {x : St} (h : RingC w B o fs (xs ++ [x])) : RingC (w.setCell ⟨B, o + 403, none⟩ (.int .i64 xs.length)) B o fs xs := by
 obtain ⟨f, ho, h1, h2, h3, h4, h5⟩ := h
 simp at h2
 refine ⟨fun j => if j = 403 then .int .i64 xs.length else f j, ho.set (by omega) _, h1, by omega, by simpa using h3, by simp, fun i hi => ?_⟩
 have hm : (fs + i) % 201 < 201 := Nat.mod_lt _ (by omega)
 have := h5 i (by simp; omega)
 have hg : (xs ++ [x]).getD i ⟨0, 0⟩ = xs.getD i ⟨0, 0⟩ := by simp [List.getElem?_append_left hi]
 rw [hg] at this
 dsimp only
 rw [if_neg (by omega), if_neg (by omega)]
 exact this

set_option maxRecDepth 100000 in
set_option maxHeartbeats 2000000 in
theorem takeFar_any (B o fs : Nat) (xs : List St) (x : St) (w : World) (h : RingC w B o fs (xs ++ [x])) :
  Calls Tryz.prog 113 #[.pointer (some ⟨B, o, none⟩)] w fun e w' => e = .returned (.tuple #[.agg #[.int .i64 x.piece, .int .i64 x.way], .bool true]) ∧ RingC w' B o fs xs ∧ Only (fun k => k = B) w w' ∧ Below w.heap.size (w.setCell ⟨B, o + 403, none⟩ (.int .i64 xs.length)) w' := by
 have hB := h.lt
 obtain ⟨c0, c1, cz, hfs, hfew⟩ := h.cells
 have hz3 := cz 403 (by omega)
 simp only [List.length_append, List.length_singleton] at c1 hfew
 have hne : (((xs.length + 1 : Nat) : Int) == 0) = false := by rw [beq_eq_false_iff_ne]; omega
 have hd := h.drop
 have hin : xs.length < (xs ++ [x]).length := by simp
 have hget : (xs ++ [x]).getD xs.length ⟨0, 0⟩ = x := by simp
 have nB : ¬ B = w.heap.size := by omega
 have nB2 : ¬ w.heap.size = B := by omega
 have hat := h.at hin
 rw [hget] at hat
 obtain ⟨m, hm⟩ : ∃ m, (fs + xs.length) % 201 = m := ⟨_, rfl⟩
 have hm2 : m < 201 := by omega
 rw [hm] at hat
 have HM := hide hm
 obtain ⟨a0, a1⟩ := hat
 have H0 : Hid (((w.setCell ⟨B, o + 403, none⟩ (.int .i64 xs.length)).alloc (.cells #[.int .i64 0, .int .i64 0] 84)).cell? ⟨B, o + 402, none⟩ = some (.int .i64 fs)) := by
  unfold Hid
  rw [World.cell?_alloc_past _ _ _ (by simpa [World.setCell] using hB), World.cell?_setCell_other _ _ _ _ (by simp)]
  exact c0
 have H1 : Hid (((w.setCell ⟨B, o + 403, none⟩ (.int .i64 xs.length)).alloc (.cells #[.int .i64 0, .int .i64 0] 84)).cell? ⟨B, o + m * 2, none⟩ = some (.int .i64 x.piece)) := by
  unfold Hid
  rw [World.cell?_alloc_past _ _ _ (by simpa [World.setCell] using hB), World.cell?_setCell_other _ _ _ _ (by first | (simp; done) | (simp; omega))]
  exact a0
 have H2 : Hid (((w.setCell ⟨B, o + 403, none⟩ (.int .i64 xs.length)).alloc (.cells #[.int .i64 0, .int .i64 0] 84)).cell? ⟨B, o + m * 2 + 1, none⟩ = some (.int .i64 x.way)) := by
  unfold Hid
  rw [World.cell?_alloc_past _ _ _ (by simpa [World.setCell] using hB), World.cell?_setCell_other _ _ _ _ (by first | (simp; done) | (simp; omega))]
  exact a1
 have HD := hide hd
 clear h hd hget hin cz hm a0 a1
 go_enter Tryz.func113, Tryz.ntmps113
 go_wp2_with fail
 refine (ringAtC_any B o xs.length fs m x _ (by simpa [World.setCell] using Nat.lt_succ_of_lt hB) (unhide H0) hfs (by omega) (unhide HM) (unhide H1) (unhide H2)).mono ?_
 rintro e w1 ⟨rfl, hb1⟩
 have hR : Boxed w1 w.heap.size [.int .i64 0, .int .i64 0] := (boxedN _ _ _ (by simp [World.setCell])).below hb1
 have hRC := ((unhide HD).below ((Below.refl _ _).alloc (Nat.le_refl _) (.cells #[.int .i64 0, .int .i64 0] 84))).below hb1
 have hon : Only (fun k => k = B) w w1 := (((only_setCell (S := fun k => k = B) w (p := ⟨B, o + 403, none⟩) rfl (.int .i64 xs.length))).trans (only_of_below ((Below.refl _ _).alloc (Nat.le_refl _) _))).trans (only_of_below hb1)
 have r0 := hR.2.1 0 _ rfl
 have r1 := hR.2.1 1 _ rfl
 have rz := hR.2.2
 have rl := hR.1
 have HRC := hide hRC
 have HON := hide hon
 clear hRC hon
 go_wp2
 refine bodyPost_ret (v := .tuple #[.agg #[.int .i64 x.piece, .int .i64 x.way], .bool true]) (by simp [results, Tryz.results113, go_sem, r0, r1]) rfl ⟨rfl, ?_, ?_, ?_⟩
 ·obtain ⟨f, ho, hr⟩ := unhide HRC
  refine ⟨f, ho.of_block ?_ (by simp [World.setCell]), hr⟩
  rw [Below.heap_setCell _ _ _ B (by simpa using nB), Below.heap_setCell _ _ _ B (by simpa using nB)]
 ·exact (unhide HON).on bw0
 ·have hbs : Below w.heap.size (w.setCell ⟨B, o + 403, none⟩ (.int .i64 xs.length)) w1 := (((Below.refl w.heap.size (w.setCell ⟨B, o + 403, none⟩ (.int .i64 xs.length))).alloc (by simp [World.setCell]) _)).trans (hb1.mono (by simp [World.setCell]))
  exact (bw1 hbs)

theorem RingC.near {w : World} {B o fs : Nat} {xs : List St} (h : RingC w B o fs xs) (hx : xs.length ≤ 200) (x : St) {m : Nat} (hm : (fs + 200) % 201 = m) :
  RingC ((((w.setCell ⟨B, o + 402, none⟩ (.int .i64 m)).setCell ⟨B, o + m * 2, none⟩ (.int .i64 x.piece)).setCell ⟨B, o + (m * 2 + 1), none⟩ (.int .i64 x.way)).setCell ⟨B, o + 403, none⟩ (.int .i64 ((xs.length : Int) + 1))) B o m (x :: xs) := by
 obtain ⟨f, ho, h1, h2, h3, h4, h5⟩ := h
 have hm2 : m < 201 := by omega
 refine ⟨_, ((((ho.set (i := 402) (by omega) (.int .i64 m)).set (i := m * 2) (by omega) (.int .i64 x.piece)).set (i := m * 2 + 1) (by omega) (.int .i64 x.way)).set (i := 403) (by omega) (.int .i64 ((xs.length : Int) + 1))), hm2, by simp; omega, ?_, ?_, fun i hi => ?_⟩
 ·try dsimp only
  rw [if_neg (by omega), if_neg (by omega), if_neg (by omega), if_pos rfl]
 ·try dsimp only
  rw [if_pos rfl]
  simp
 ·try dsimp only
  cases i with
  | zero =>
   have e0 : (m + 0) % 201 = m := by omega
   rw [e0]
   simp only [List.getD_cons_zero]
   constructor
   ·rw [if_neg (by omega), if_neg (by omega)]
    simp
   ·rw [if_neg (by omega)]
    simp
  | succ i =>
   simp at hi
   have e0 : (m + (i + 1)) % 201 = (fs + i) % 201 := by omega
   have hlt : (fs + i) % 201 < 201 := Nat.mod_lt _ (by omega)
   have hne : (fs + i) % 201 ≠ m := by omega
   rw [e0]
   simp only [List.getD_cons_succ]
   have := h5 i hi
   constructor
   ·rw [if_neg (by omega), if_neg (by omega), if_neg (by omega), if_neg (by omega)]
    exact this.1
   ·rw [if_neg (by omega), if_neg (by omega), if_neg (by omega), if_neg (by omega)]
    exact this.2

set_option maxRecDepth 100000 in
set_option maxHeartbeats 4000000 in
theorem addNear_any (B o fs : Nat) (xs : List St) (x : St) (w : World) (h : RingC w B o fs xs) (hx : xs.length ≤ 200) :
  Calls Tryz.prog 112 #[.pointer (some ⟨B, o, none⟩), .agg #[.int .i64 x.piece, .int .i64 x.way]] w fun e w' => (∃ v, e = .returned v) ∧ (∃ fs', fs' = (fs + 200) % 201 ∧ RingC w' B o fs' (x :: xs) ∧ Below w.heap.size ((((w.setCell ⟨B, o + 402, none⟩ (.int .i64 fs')).setCell ⟨B, o + fs' * 2, none⟩ (.int .i64 x.piece)).setCell ⟨B, o + fs' * 2 + 1, none⟩ (.int .i64 x.way)).setCell ⟨B, o + 403, none⟩ (.int .i64 ((xs.length : Int) + 1))) w') ∧ Only (fun k => k = B) w w' := by
 have hB := h.lt
 obtain ⟨c0, c1, cz, hfs, hfew⟩ := h.cells
 obtain ⟨m, hm⟩ : ∃ m, (fs + 200) % 201 = m := ⟨_, rfl⟩
 have hm2 : m < 201 := by omega
 have hix : (m : Int) < 201 := by omega
 have hnear := h.near hx x hm
 rw [← Nat.add_assoc o (m * 2) 1] at hnear
 obtain ⟨f, ho, _⟩ := h
 have d0 := (ho.2 (m * 2) (by omega)).1
 have d1 := (ho.2 (m * 2 + 1) (by omega)).1
 have z0 := cz (m * 2) (by omega)
 have z1 := cz (m * 2 + 1) (by omega)
 rw [← Nat.add_assoc] at d1 z1
 have e1 : ¬ o + 402 = o + m * 2 := by omega
 have e2 : ¬ o + m * 2 = o + 402 := by omega
 have e3 : ¬ o + 402 = o + m * 2 + 1 := by omega
 have e4 : ¬ o + m * 2 + 1 = o + 402 := by omega
 have e5 : ¬ o + 403 = o + m * 2 := by omega
 have e6 : ¬ o + m * 2 = o + 403 := by omega
 have e7 : ¬ o + 403 = o + m * 2 + 1 := by omega
 have e8 : ¬ o + m * 2 + 1 = o + 403 := by omega
 have g1 : ¬ 402 = m * 2 := by omega
 have g2 : ¬ m * 2 = 402 := by omega
 have g5 : ¬ 403 = m * 2 := by omega
 have g6 : ¬ m * 2 = 403 := by omega
 have z2 := cz 402 (by omega)
 have z3 := cz 403 (by omega)
 have nB : ¬ B = w.heap.size := by omega
 have nB2 : ¬ w.heap.size = B := by omega
 have HC : Hid ((w.alloc (.cells #[.int .i64 x.piece, .int .i64 x.way] 84)).cell? ⟨B, o + 402, none⟩ = some (.int .i64 fs)) := by
  unfold Hid
  rw [World.cell?_alloc_past _ _ _ hB]
  exact c0
 have HM := hide hm
 have HN := hide hnear
 clear hm hnear ho cz
 go_enter Tryz.func112, Tryz.ntmps112
 go_wp2_with fail
 refine (place_any B o fs 200 _ (unhide HC) (by omega) (by omega)).mono ?_
 rintro e w1 ⟨rfl, rfl⟩
 rw [unhide HM]
 go_wp2_with fail
 go_region
 go_wp2
 go_end0
 refine ⟨⟨_, rfl⟩, ⟨m, (unhide HM).symm, (unhide HN).below bw0, ?_⟩, ?_⟩
 ·refine Below.drew (Below.alloc (Below.refl _ _) ?_ _)
  simp [World.setCell]
 refine ((((only_setCell (S := fun k => k = B) w (p := ⟨B, o + 402, none⟩) rfl (.int .i64 m)).trans (only_setCell (S := fun k => k = B) _ (p := ⟨B, o + m * 2, none⟩) rfl (.int .i64 x.piece))).trans (only_setCell (S := fun k => k = B) _ (p := ⟨B, o + m * 2 + 1, none⟩) rfl (.int .i64 x.way))).trans (only_setCell (S := fun k => k = B) _ (p := ⟨B, o + 403, none⟩) rfl (.int .i64 ((xs.length : Int) + 1)))).trans (only_of_below ?_)
 exact bw0

end Go.Proofs.YtbdggfpfpjijoaaGreatDoor

namespace Go.Proofs.YtbdggfpfpjijoaaGreatDoor
open Go.RowKit

theorem RingC.kept {w w' : World} {B o fs M : Nat} {xs : List St} (h : RingC w B o fs xs) (hb : Below M w w') (hB : B < M) : RingC w' B o fs xs := by
 obtain ⟨f, ho, hr⟩ := h
 exact ⟨f, ho.of_block (hb.block B hB) hb.size, hr⟩

end Go.Proofs.YtbdggfpfpjijoaaGreatDoor

namespace Go.Proofs.YtbdggfpfpjijoaaGreatDoor

def trn (x : St) : St := ⟨x.piece, -x.way⟩
def takeLen (n : Nt) (long : Int) : Int → List St → List St
 | _, [] => []
 | h, x :: r => if h < long then x :: takeLen n long (h + lenOf n x.piece) r else []

theorem takeLen_take (n : Nt) (long : Int) : ∀ (zs : List St) (h : Int), ∃ k, k ≤ zs.length ∧ takeLen n long h zs = zs.take k ∧ (∀ j, j < k → h + sumLen n (zs.take j) < long) ∧ (k = zs.length ∨ long ≤ h + sumLen n (zs.take k)) := by
 intro zs
 induction zs with
 | nil => intro h; exact ⟨0, by simp, by simp [takeLen], fun j hj => by omega, Or.inl rfl⟩
 | cons x r ih =>
  intro h
  by_cases hl : h < long
  ·obtain ⟨k, h1, h2, h3, h4⟩ := ih (h + lenOf n x.piece)
   refine ⟨k + 1, by simp; omega, by simp [takeLen, hl, h2], fun j hj => ?_, ?_⟩
   ·cases j with
    | zero => simpa [sumLen_nil] using hl
    | succ j =>
     have := h3 j (by omega)
     simp only [List.take_succ_cons, sumLen_cons]
     omega
   ·rcases h4 with h4 | h4
    ·exact Or.inl (by simp [h4])
    ·right
     simp only [List.take_succ_cons, sumLen_cons]
     omega
  ·exact ⟨0, by simp, by simp [takeLen, hl], fun j hj => by omega, Or.inr (by simp [sumLen_nil]; omega)⟩

def turnTail (n : Nt) (t : Tr) : Sp := ⟨(tailOf n t).piece, (tailOf n t).at_, -(tailOf n t).way⟩

end Go.Proofs.YtbdggfpfpjijoaaGreatDoor

namespace Go.Proofs.YtbdggfpfpjijoaaGreatDoor
open Go.RowKit

def turnList (t : Tr) : List St := ((((⟨t.front.piece, t.front.way⟩ : St) :: t.back).dropLast).reverse).map trn
def turnBack (n : Nt) (t : Tr) : List St := takeLen n t.long (behind n (turnTail n t)) (turnList t)
def turnOf (n : Nt) (t : Tr) : Tr := ⟨turnTail n t, t.long, turnBack n t⟩
def TurnIs (n : Nt) (t t' : Tr) : Prop := (TrainRight n t ∧ t' = turnOf n t) ∨ (¬ TrainRight n t ∧ t' = noTr)
theorem TurnIs.unique {n : Nt} {t a b : Tr} (h : TurnIs n t a) (g : TurnIs n t b) : a = b := by
 rcases h with ⟨h1, rfl⟩ | ⟨h1, rfl⟩ <;> rcases g with ⟨g1, rfl⟩ | ⟨g1, rfl⟩
 ·rfl
 ·exact absurd h1 g1
 ·exact absurd g1 h1
 ·rfl
theorem takeLen_in {n : Nt} {long h : Int} (hl : h < long) (x : St) (r : List St) : takeLen n long h (x :: r) = x :: takeLen n long (h + lenOf n x.piece) r := by simp [takeLen, hl]
end Go.Proofs.YtbdggfpfpjijoaaGreatDoor

