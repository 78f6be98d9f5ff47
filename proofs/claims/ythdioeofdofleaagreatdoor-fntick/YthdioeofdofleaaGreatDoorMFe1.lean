import Derived.Test.YthdioeofdofleaaGreatDoorMKt22
import Derived.Test.YthdioeofdofleaaGreatDoorMKt12
import Derived.Test.YthdioeofdofleaaGreatDoorMSpec12
import Derived.Test.YthdioeofdofleaaGreatDoorMKt17
import Derived.BigQuiet
set_option linter.unusedSimpArgs false
namespace Go.Proofs.YthdioeofdofleaaGreatDoor
open Go.RowKit
def Ch (R : St -> St -> Prop) : St -> List St -> Prop
 | _, [] => True
 | a, s :: r => R s a /\ Ch R s r
theorem Ch.snoc {R : St -> St -> Prop} : ∀ {l : List St} {a z : St}, Ch R a l -> R z (Vy a l) -> Ch R a (l ++ [z]) := by
 intro l
 induction l with
 | nil => intro a z _ h; exact ⟨h, trivial⟩
 | cons x r ih => intro a z h hz; exact ⟨h.1, ih h.2 hz⟩
theorem Ch.take {R : St -> St -> Prop} : ∀ {l : List St} {a : St} (k : Nat), Ch R a l -> Ch R a (l.take k) := by
 intro l
 induction l with
 | nil => intro a k _; simp [Ch]
 | cons x r ih =>
  intro a k h
  cases k with
  | zero => simp [Ch]
  | succ k => exact ⟨h.1, ih k h.2⟩
theorem sits_ch {n : Nt} {zs : List Int} : ∀ {l : List St} {a : St}, yO n zs a l ↔ Ch (Yp n zs) a l := by
 intro l
 induction l with
 | nil => intro a; simp [yO, Ch]
 | cons x r ih => intro a; simp only [yO, Ch, ih]
theorem back_ch {n : Nt} {long : Int} : ∀ {xs : List St} {hv : Int} {ah : St}, ZE n long hv ah xs ↔ Ch (Joined n) ah xs /\ (∀ x ∈ xs, zy n x) /\ (∀ j, j < xs.length -> hv + zN n (xs.take j) < long) /\ long <= hv + zN n xs := by
 intro xs
 induction xs with
 | nil => intro hv ah; simp [ZE, Ch, zM]
 | cons x r ih =>
  intro hv ah;simp only [ZE, Ch, ih, zH]
  constructor
  ·rintro ⟨h1, h2, h3, h4, h5, h6, h7⟩;refine ⟨⟨h3, h4⟩, ?_, ?_, by omega⟩
   ·intro y hy
    rcases List.mem_cons.1 hy with rfl | hy
    ·exact h1
    ·exact h5 y hy
   ·intro j hj
    cases j with
    | zero => simpa [zM] using h2
    | succ j =>
     have := h6 j (by simpa using hj);simp only [List.take_succ_cons, zH];omega
  ·rintro ⟨⟨h3, h4⟩, h5, h6, h7⟩;have h0 := h6 0 (by simp)
   simp [zM] at h0
   refine ⟨h5 x (by simp), h0, h3, h4, fun y hy => h5 y (by simp [hy]), fun j hj => ?_, by omega⟩;have := h6 (j + 1) (by simpa using hj);simp only [List.take_succ_cons, zH] at this;omega

set_option maxRecDepth 100000 in
set_option maxHeartbeats 4000000 in
theorem wTrain_same (t : Tr) (a b : Option Addr) (ka kb : Nat) (w : World) {L L' : Nat} (ha : yw L w a t.back) (hb : yw L' w b t.back) (hl : t.back.length <= 1048576) :
  Calls Tryz.prog 9 #[.agg #[.int .i64 t.front.piece, .int .i64 t.front.at_, .int .i64 t.front.way, .int .i64 t.long, .slice a t.back.length ka], .agg #[.int .i64 t.front.piece, .int .i64 t.front.at_, .int .i64 t.front.way, .int .i64 t.long, .slice b t.back.length kb]] w fun e w' => e = .returned (.bool true) /\ Below w.heap.size w w' := by
 have HA := zd ha;have HB := zd hb;clear ha hb;obtain ⟨⟨fp, fa, fw⟩, lg, bk⟩ := t;dsimp only at HA HB hl ⊢;go_enter Tryz.func9, Tryz.ntmps9;go_wp2_with fail;obtain ⟨w2, hw2⟩ : ∃ w2, (w.alloc (.cells #[.int .i64 fp, .int .i64 fa, .int .i64 fw, .int .i64 lg, .slice a bk.length ka] 32)).alloc (.cells #[.int .i64 fp, .int .i64 fa, .int .i64 fw, .int .i64 lg, .slice b bk.length kb] 32) = w2 := ⟨_, rfl⟩
 have hB2 : Below w.heap.size w w2 := by rw [← hw2]; exact bw0
 have hX : zg w2 w.heap.size [.int .i64 fp, .int .i64 fa, .int .i64 fw, .int .i64 lg, .slice a bk.length ka] := by rw [← hw2]; exact (zf w #[.int .i64 fp, .int .i64 fa, .int .i64 fw, .int .i64 lg, .slice a bk.length ka] 32).alloc _
 have hY : zg w2 (w.heap.size + 1) [.int .i64 fp, .int .i64 fa, .int .i64 fw, .int .i64 lg, .slice b bk.length kb] := by rw [← hw2]; exact zp _ _ _ (by simp)
 rw [hw2];clear hw2
 go_loopw [30] (fun z wr => ∃ i : Nat, z = .int .i64 i /\ i <= bk.length /\ Below w2.heap.size w2 wr) (fun z _ => bk.length - (intOf z).toNat)
 case atStart => exact ⟨0, rfl, Nat.zero_le _, Below.refl _ _⟩
 case round =>
  obtain ⟨i, rfl, hi, hbr⟩ := hrel
  by_cases hlt : i < bk.length
  ·have hlt' : (i : Int) < (bk.length : Int) := by omega
   have hBr := below_then hB2 hbr;obtain ⟨b1, o1, rfl, hl1, p0, p1⟩ := ((za HA).below hBr) i hlt;obtain ⟨b2, o2, rfl, hl2, q0, q1⟩ := ((za HB).below hBr) i hlt
   generalize bk[i] = x at *
   obtain ⟨xp, xy⟩ := x;dsimp only at p0 p1 q0 q1;have e1 := hl1.2;have e2 := hl2.2;have x4 := (hX.below hbr).2.1 4 _ rfl;have y4 := (hY.below hbr).2.1 4 _ rfl;have xl := (hX.below hbr).1;have yl := (hY.below hbr).1;have hwi : IntKind.i64.wrap ((i : Int) + 1) = ((i + 1 : Nat) : Int) := (zj (by omega) (by omega)).trans (by omega);clear hX hY hBr;go_wp2_with fail
   go_quiet (fail)
   go_wp2_with fail;exact ⟨⟨i + 1, rfl, by omega, hbr.trans bw0⟩, by simp [intOf]; omega⟩
  ·have hlt' : ¬ (i : Int) < (bk.length : Int) := by omega
   clear hX hY;go_wp2_with fail;go_ret;exact ⟨rfl, below_then hB2 hbr⟩
end Go.Proofs.YthdioeofdofleaaGreatDoor
