import Derived.Test.YtjacbppeebnjfaaGreatMKt22
import Derived.Test.YtjacbppeebnjfaaGreatMKt17
namespace Go.Proofs.YtjacbppeebnjfaaGreat
open Go.RowKit

theorem GB.set {w : World} {B : Nat} {k0 k1 k2 : Value} {s : Sp} {long sp : Int} {xs : List St} (h : GB w B k0 k1 k2 s long sp xs) :
  (∀ p, GB (w.setCell ⟨B, 0, none⟩ (.int .i64 p)) B k0 k1 k2 ⟨p, s.at_, s.way⟩ long sp xs) ∧ (∀ a, GB (w.setCell ⟨B, 1, none⟩ (.int .i64 a)) B k0 k1 k2 ⟨s.piece, a, s.way⟩ long sp xs)
  ∧ (∀ y, GB (w.setCell ⟨B, 2, none⟩ (.int .i64 y)) B k0 k1 k2 ⟨s.piece, s.at_, y⟩ long sp xs) ∧ (∀ q, GB (w.setCell ⟨B, 7, none⟩ (.int .i64 q)) B k0 k1 k2 s long q xs) := by
 obtain ⟨f, fs, ho, hi⟩ := h
 have hring : ∀ (c : Nat) (v : Value), c < 8 → ∀ i, i < xs.length → (if 8 + ((fs + i) % 201) * 2 = c then v else f (8 + ((fs + i) % 201) * 2)) = .int .i64 (xs.getD i ⟨0, 0⟩).piece ∧ (if 8 + ((fs + i) % 201) * 2 + 1 = c then v else f (8 + ((fs + i) % 201) * 2 + 1)) = .int .i64 (xs.getD i ⟨0, 0⟩).way := fun c v hc i hx => by
  rw [if_neg (by omega), if_neg (by omega)]
  exact hi.ring i hx
 refine ⟨fun p => ?_, fun a => ?_, fun y => ?_, fun q => ?_⟩
 ·exact ⟨_, fs, ho.set0 (i := 0) (by omega) _, ⟨hi.lt, rfl, hi.c1, hi.c2, hi.c3, hi.c4, hi.c5, hi.c6, hi.c7, hi.c410, hi.c411, hi.few, hring 0 _ (by omega)⟩⟩
 ·exact ⟨_, fs, ho.set0 (i := 1) (by omega) _, ⟨hi.lt, hi.c0, rfl, hi.c2, hi.c3, hi.c4, hi.c5, hi.c6, hi.c7, hi.c410, hi.c411, hi.few, hring 1 _ (by omega)⟩⟩
 ·exact ⟨_, fs, ho.set0 (i := 2) (by omega) _, ⟨hi.lt, hi.c0, hi.c1, rfl, hi.c3, hi.c4, hi.c5, hi.c6, hi.c7, hi.c410, hi.c411, hi.few, hring 2 _ (by omega)⟩⟩
 ·exact ⟨_, fs, ho.set0 (i := 7) (by omega) _, ⟨hi.lt, hi.c0, hi.c1, hi.c2, hi.c3, hi.c4, hi.c5, hi.c6, rfl, hi.c410, hi.c411, hi.few, hring 7 _ (by omega)⟩⟩

theorem GB.far {w : World} {B : Nat} {k0 k1 k2 : Value} {s : Sp} {long sp : Int} {xs : List St} {x : St} (h : GB w B k0 k1 k2 s long sp (xs ++ [x])) : GB (w.setCell ⟨B, 411, none⟩ (.int .i64 xs.length)) B k0 k1 k2 s long sp xs := by
 obtain ⟨f, fs, ho, hi⟩ := h
 have hfew := hi.few
 simp at hfew
 refine ⟨_, fs, ho.set0 (i := 411) (by omega) _, ⟨hi.lt, hi.c0, hi.c1, hi.c2, hi.c3, hi.c4, hi.c5, hi.c6, hi.c7, hi.c410, rfl, by omega, fun i hx => ?_⟩⟩
 have hm : (fs + i) % 201 < 201 := Nat.mod_lt _ (by omega)
 have := hi.ring i (by simp; omega)
 have hg : (xs ++ [x]).getD i ⟨0, 0⟩ = xs.getD i ⟨0, 0⟩ := by simp [List.getElem?_append_left hx]
 rw [hg] at this
 try dsimp only
 rw [if_neg (by omega), if_neg (by omega)]
 exact this

structure OnB (B : Nat) (w w' : World) : Prop where
 ob : Only (fun k => k = B) w w'
 num : B < w.heap.size → w'.cell? ⟨B, 412, none⟩ = w.cell? ⟨B, 412, none⟩
theorem onB_refl (B : Nat) (w : World) : OnB B w w := ⟨only_refl _ _, fun _ => rfl⟩
theorem OnB.trans {B : Nat} {a b c : World} (h : OnB B a b) (k : OnB B b c) : OnB B a c := ⟨h.ob.trans k.ob, fun hl => (k.num (Nat.lt_of_lt_of_le hl h.ob.size)).trans (h.num hl)⟩
theorem onB_below {B : Nat} {w w' : World} (h : Below w.heap.size w w') : OnB B w w' := ⟨only_of_below h, fun hl => h.cell (p := ⟨B, 412, none⟩) hl⟩
theorem onB_set {B : Nat} (w : World) {p : Addr} (hp : p.block = B) (v : Value) (ho : p.off < 412 := by first | decide | (dsimp only; omega) | omega) : OnB B w (w.setCell p v) :=
 ⟨only_setCell (S := fun k => k = B) w hp v, fun _ => World.cell?_setCell_other _ _ _ _ (fun e => by have h := congrArg Addr.off e; dsimp only at h; omega)⟩
theorem OnB.size {B : Nat} {w w' : World} (h : OnB B w w') : w.heap.size ≤ w'.heap.size := h.ob.size
theorem OnB.below {B K : Nat} {w w' : World} (h : OnB B w w') (hB : K ≤ w.heap.size) (hS : ∀ k, k < K → ¬ k = B) : Below K w w' := h.ob.below hB hS
theorem OnB.on {B : Nat} {w a b : World} (h : OnB B w a) (hb : Below w.heap.size a b) : OnB B w b := ⟨h.ob.on hb, fun hl => (hb.cell (p := ⟨B, 412, none⟩) hl).trans (h.num hl)⟩
theorem OnB.step {T : Nat → Prop} {B : Nat} {a b c : World} (h : OnB B a b) (k : Only T b c) (hT : ∀ i, i < a.heap.size → ¬ T i) : OnB B a c :=
 ⟨⟨k.os.trans h.ob.os, k.tape.trans h.ob.tape, k.output.trans h.ob.output, Nat.le_trans h.ob.size k.size, fun i hi hs => (k.block i (Nat.lt_of_lt_of_le hi h.ob.size) (hT i hi)).trans (h.ob.block i hi hs), fun i c t fr hc => by
  obtain ⟨c1, h1, e1⟩ := h.ob.shape i c t fr hc
  obtain ⟨c2, h2, e2⟩ := k.shape i c1 t fr h1
  exact ⟨c2, h2, e2.trans e1⟩⟩, fun hl => (World.cell?_of_block (w := b) (a := ⟨B, 412, none⟩) (k.block B (Nat.lt_of_lt_of_le hl h.ob.size) (hT B hl))).trans (h.num hl)⟩

theorem gTakeFar_any (B : Nat) (k0 k1 k2 : Value) (s : Sp) (long sp : Int) (xs : List St) (x : St) (w : World) (h : GB w B k0 k1 k2 s long sp (xs ++ [x])) :
  Calls Tryz.prog 108 #[.pointer (some ⟨B, 8, none⟩)] w fun e w' => e = .returned (.tuple #[.agg #[.int .i64 x.piece, .int .i64 x.way], .bool true]) ∧ GB w' B k0 k1 k2 s long sp xs ∧ OnB B w w' := by
 obtain ⟨fs, hr⟩ := h.ring
 refine (takeFar_any B 8 fs xs x w hr).mono fun e w' ⟨he, _, ho, hb⟩ => ⟨he, ?_, ho, fun hl => (hb.cell (p := ⟨B, 412, none⟩) hl).trans ((onB_set (B := B) w (p := ⟨B, 8 + 403, none⟩) rfl _).num hl)⟩
 exact h.far.below (by rw [setCell_size]; exact hb)

theorem GB.near {w : World} {B : Nat} {k0 k1 k2 : Value} {s : Sp} {long sp : Int} {xs : List St} (x : St) (f : Nat → Value) (fs : Nat) (ho : OwnC w B 0 412 f) (hi : BodyIs f fs k0 k1 k2 s long sp xs) (hx : xs.length ≤ 200) {m : Nat} (hm : (fs + 200) % 201 = m) :
  GB ((((w.setCell ⟨B, 410, none⟩ (.int .i64 m)).setCell ⟨B, 8 + m * 2, none⟩ (.int .i64 x.piece)).setCell ⟨B, 8 + m * 2 + 1, none⟩ (.int .i64 x.way)).setCell ⟨B, 411, none⟩ (.int .i64 ((xs.length : Int) + 1))) B k0 k1 k2 s long sp (x :: xs) := by
 have hm2 : m < 201 := by omega
 have hN : ∀ c, c < 8 → (if c = 411 then (.int .i64 ((xs.length : Int) + 1) : Value) else if c = 8 + m * 2 + 1 then .int .i64 x.way else if c = 8 + m * 2 then .int .i64 x.piece else if c = 410 then .int .i64 m else f c) = f c := fun c hc => by
  rw [if_neg (by omega), if_neg (by omega), if_neg (by omega), if_neg (by omega)]
 refine ⟨_, m, ((((ho.set0 (i := 410) (by omega) (.int .i64 m)).set0 (i := 8 + m * 2) (by omega) (.int .i64 x.piece)).set0 (i := 8 + m * 2 + 1) (by omega) (.int .i64 x.way)).set0 (i := 411) (by omega) (.int .i64 ((xs.length : Int) + 1))),
  ⟨hm2, (hN 0 (by omega)).trans hi.c0, (hN 1 (by omega)).trans hi.c1, (hN 2 (by omega)).trans hi.c2, (hN 3 (by omega)).trans hi.c3, (hN 4 (by omega)).trans hi.c4, (hN 5 (by omega)).trans hi.c5, (hN 6 (by omega)).trans hi.c6, (hN 7 (by omega)).trans hi.c7, ?_, ?_, by simp; omega, fun i hx' => ?_⟩⟩
 ·try dsimp only
  rw [if_neg (by omega), if_neg (by omega), if_neg (by omega), if_pos rfl]
 ·try dsimp only
  rw [if_pos rfl]
  simp
 ·try dsimp only
  cases i with
  | zero =>
   have e0 : (m + 0) % 201 = m := by omega
   rw [e0]
   simp only [List.getD_cons_zero]
   constructor
   ·rw [if_neg (by omega), if_neg (by omega)]
    simp
   ·rw [if_neg (by omega)]
    simp
  | succ i =>
   simp at hx'
   have e0 : (m + (i + 1)) % 201 = (fs + i) % 201 := by omega
   have hlt : (fs + i) % 201 < 201 := Nat.mod_lt _ (by omega)
   have hne : (fs + i) % 201 ≠ m := by omega
   rw [e0]
   simp only [List.getD_cons_succ]
   have := hi.ring i hx'
   constructor
   ·rw [if_neg (by omega), if_neg (by omega), if_neg (by omega), if_neg (by omega)]
    exact this.1
   ·rw [if_neg (by omega), if_neg (by omega), if_neg (by omega), if_neg (by omega)]
    exact this.2

theorem gAddNear_any (B : Nat) (k0 k1 k2 : Value) (s : Sp) (long sp : Int) (xs : List St) (x : St) (w : World) (h : GB w B k0 k1 k2 s long sp xs) (hx : xs.length ≤ 200) :
  Calls Tryz.prog 84 #[.pointer (some ⟨B, 8, none⟩), .agg #[.int .i64 x.piece, .int .i64 x.way]] w fun e w' => (∃ v, e = .returned v) ∧ GB w' B k0 k1 k2 s long sp (x :: xs) ∧ OnB B w w' := by
 obtain ⟨f, fs, ho, hi⟩ := h
 have hr : RingC w B 8 fs xs := by
  refine ⟨fun j => f (8 + j), ⟨ho.1, fun j hj => ?_⟩, hi.lt, hi.few, ?_, ?_, fun i hx => ?_⟩
  ·have := ho.2 (8 + j) (by omega)
   simpa using this
  ·show f (8 + 402) = _
   exact hi.c410
  ·show f (8 + 403) = _
   exact hi.c411
  ·exact hi.ring i hx
 refine (addNear_any B 8 fs xs x w hr hx).mono fun e w' ⟨he, ⟨fs', h1, _, hb⟩, hon⟩ => ⟨he, ?_, hon, fun hl => (hb.cell (p := ⟨B, 412, none⟩) hl).trans (((((onB_set (B := B) w (p := ⟨B, 8 + 402, none⟩) rfl _).trans (onB_set _ (p := ⟨B, 8 + fs' * 2, none⟩) rfl _)).trans (onB_set _ (p := ⟨B, 8 + fs' * 2 + 1, none⟩) rfl _)).trans (onB_set _ (p := ⟨B, 8 + 403, none⟩) rfl _)).num hl)⟩
 exact (GB.near x f fs ho hi hx h1.symm).below (by rw [setCell_size, setCell_size, setCell_size, setCell_size]; exact hb)

end Go.Proofs.YtjacbppeebnjfaaGreat

namespace Go.Proofs.YtjacbppeebnjfaaGreat
open Go.RowKit

def leaveR (n : Nt) : Int → List St → Int × List St
 | sp, [] => (sp, [])
 | sp, x :: r => if sp < lenOf n x.piece then (sp, x :: r) else leaveR n (sp - lenOf n x.piece) r

theorem field_step (p y : Int) (W : World) : (Instr.field 67 (.agg #[.int .i64 p, .int .i64 y]) 0).run Tryz.prog W = .ok (.int .i64 p) W := by kernel_rfl

theorem gStepAt_last (B : Nat) (k0 k1 k2 : Value) (s : Sp) (long sp : Int) (zs : List St) (xp xy : Int) (w : World) (h : GB w B k0 k1 k2 s long sp (zs ++ [⟨xp, xy⟩])) :
  Calls Tryz.prog 43 #[.pointer (some ⟨B, 0, none⟩), .int .i64 ((zs.length + 1 : Nat) : Int)] w fun e w' => e = .returned (.agg #[.int .i64 xp, .int .i64 xy]) ∧ Below w.heap.size w w' :=
 (gStepAt_any B (zs.length + 1) k0 k1 k2 s long sp (zs ++ [⟨xp, xy⟩]) w h (by simp)).mono fun e w' ⟨he, hb⟩ => ⟨by rw [he]; simp [stepOf], hb⟩

set_option maxRecDepth 100000 in
set_option maxHeartbeats 4000000 in
theorem leaveBehind_any (B : Nat) (n : Nt) (ka ksh kst : Option Addr) (kca kcsh kcst : Nat) (s : Sp) (long sp : Int) (xs : List St) (w : World) (h : GB w B (.slice ka n.pieces.length kca) (.slice ksh n.joints.length kcsh) (.slice kst n.pieces.length kcst) s long sp xs)
  (hkO : ∀ wb, OnB B w wb → PcsAt 0 wb ka n.pieces) (hG : NetGood n) (hxs : ∀ x ∈ xs, StepOk n x) (hsp : 0 ≤ sp ∧ sp ≤ 100000000000) :
  Calls Tryz.prog 85 #[.pointer (some ⟨B, 0, none⟩)] w fun e w' => (∃ v, e = .returned v) ∧ GB w' B (.slice ka n.pieces.length kca) (.slice ksh n.joints.length kcsh) (.slice kst n.pieces.length kcst) s long (leaveR n sp xs.reverse).1 (leaveR n sp xs.reverse).2.reverse ∧ OnB B w w' := by
 have H := hide h
 have HKO := hide hkO
 have HXS := hide hxs
 clear h hkO hxs
 go_enter Tryz.func85, Tryz.ntmps85
 go_wp2_with fail
 go_loopw [2] (fun _ wr => ∃ (q : Int) (ys : List St), (0 ≤ q ∧ q ≤ 100000000000) ∧ Hid (GB wr B (.slice ka n.pieces.length kca) (.slice ksh n.joints.length kcsh) (.slice kst n.pieces.length kcst) s long q ys) ∧ Hid (leaveR n q ys.reverse = leaveR n sp xs.reverse) ∧ Hid (∀ x ∈ ys, StepOk n x) ∧ Hid (OnB B w wr))
  (fun _ wr => (intOf ((wr.cell? ⟨B, 411, none⟩).getD (.int .i64 0))).toNat)
 case atStart => exact ⟨sp, xs, hsp, H, hide rfl, HXS, hide (onB_refl _ _)⟩
 case round =>
  obtain ⟨q, ys, hq, HB, HE, HYS, HON⟩ := hrel
  have hgb := unhide HB
  obtain ⟨_, _, _, c3, _, _, _, c7, c411⟩ := hgb.cells
  have hB := hgb.lt
  clear hgb
  rcases List.eq_nil_or_concat ys with rfl | ⟨zs, x, rfl⟩
  ·simp only [List.length_nil] at c411
   have HE2 : Hid (leaveR n sp xs.reverse = (q, [])) := by
    unfold Hid
    rw [← unhide HE]
    simp [leaveR]
   go_wp2
   go_end0
   refine ⟨⟨_, rfl⟩, ?_, unhide HON⟩
   rw [unhide HE2]
   exact unhide HB
  ·rw [List.concat_eq_append] at HB HE HYS c411
   simp only [List.length_append, List.length_singleton] at c411
   have hpos : (0 : Int) < ((zs.length + 1 : Nat) : Int) := by omega
   have hxok := unhide HYS x (by simp)
   have hlen := hG.len hxok.1.1 hxok.1.2
   obtain ⟨pb, poff, hka, hpb, p1⟩ := (unhide HKO wr (unhide HON)).len hxok.1.1 hxok.1.2
   subst hka
   obtain ⟨xp, xy⟩ := x
   dsimp only at p1 hlen
   have hx0 := hxok.1
   dsimp only at hx0
   obtain ⟨xn, rfl⟩ := Int.eq_ofNat_of_zero_le hx0.1
   simp only [Int.toNat_natCast] at p1
   clear hxok
   have hfl := field_step
   go_wp2_with fail
   go_region_held3 (fun w' => w'.cell? ⟨B, 3, none⟩ = some (.slice (some ⟨pb, poff, none⟩) n.pieces.length kca) ∧ w'.cell? ⟨B, 411, none⟩ = some (.int .i64 ((zs.length + 1 : Nat) : Int)) ∧ w'.cell? ⟨pb, poff + xn * 4 + 1, none⟩ = some (.int .i64 (lenOf n xn)))
    (((try dsimp only); (repeat' apply And.intro)) <;> (go_keep; done))
    (first
     | (go_at_call 43; refine (gStepAt_last B _ _ _ s long q zs xn xy _ ((unhide HB).below bw0)).mono ?_; rintro e wq ⟨rfl, hbq0⟩; obtain ⟨hcq, hfq⟩ := bcell hbq0; have q0 := hcq (B) (3) (by first | (simp; done) | (simp; omega) | omega); have q1 := hcq (B) (411) (by first | (simp; done) | (simp; omega) | omega); have qp := hcq pb (poff + xn * 4 + 1) (by first | omega | (simp; omega))))
   have hbq : Below wr.heap.size wr wq := below_then bw0 hbq0
   clear hcq hfq q0 q1 qp
   have hgq := (unhide HB).below hbq
   obtain ⟨_, _, _, _, _, _, _, d7, _⟩ := hgq.cells
   have HBQ := hide hgq
   clear hgq c3 c7
   by_cases hlt : q < lenOf n xn
   ·have HE2 : Hid (leaveR n sp xs.reverse = (q, (zs ++ ([⟨xn, xy⟩] : List St)).reverse)) := by
     unfold Hid
     rw [← unhide HE]
     simp [leaveR, hlt]
    go_wp2
    refine bodyPost_ret (results_none rfl _ _ _) rfl ?_
    refine ⟨⟨_, rfl⟩, ?_, (unhide HON).trans (onB_below hbq)⟩
    rw [unhide HE2, List.reverse_reverse]
    exact unhide HBQ
   ·have HE2 : Hid (leaveR n (q - lenOf n xn) zs.reverse = leaveR n sp xs.reverse) := by
     unfold Hid
     rw [← unhide HE]
     simp [leaveR, hlt]
    go_wp2_with fail
    refine (gTakeFar_any B _ _ _ s long q zs ⟨xn, xy⟩ _ (unhide HBQ)).mono ?_
    rintro e w2 ⟨rfl, hgb2, ho2⟩
    obtain ⟨_, _, _, _, _, _, _, f7, f411⟩ := hgb2.cells
    have f7z : w2.frozen? ⟨B, 7, none⟩ = false := by obtain ⟨f, fs, ho, _⟩ := hgb2; simpa using (ho.2 7 (by omega)).2
    have hB2 := hgb2.lt
    have HB2 := hide hgb2
    have HO2 := hide ho2
    clear hgb2 ho2 d7
    go_wp2
    refine ⟨⟨q - lenOf n xn, zs, ⟨by omega, by omega⟩, hide ((unhide HB2).set.2.2.2 _), HE2, hide fun y hy => unhide HYS y (by simp [hy]), hide (((unhide HON).trans (onB_below hbq)).trans ((unhide HO2).trans (onB_set _ (p := ⟨B, 7, none⟩) rfl _)))⟩, ?_⟩
    rw [c411, World.cell?_setCell_other _ _ _ _ (by simp), f411]
    simp [intOf]

end Go.Proofs.YtjacbppeebnjfaaGreat

namespace Go.Proofs.YtjacbppeebnjfaaGreat
open Go.RowKit

set_option maxRecDepth 100000 in
set_option maxHeartbeats 4000000 in
theorem enter_full (B : Nat) (k0 k1 k2 : Value) (s : Sp) (long sp : Int) (xs : List St) (x : St) (w : World) (h : GB w B k0 k1 k2 s long sp xs) (hx : xs.length = 200) :
  Calls Tryz.prog 48 #[.pointer (some ⟨B, 0, none⟩), .agg #[.int .i64 x.piece, .int .i64 x.way]] w fun e w' => e = .returned (.bool false) ∧ Below w.heap.size w w' := by
 have hB := h.lt
 obtain ⟨_, _, _, _, _, _, _, _, c411⟩ := h.cells
 rw [hx] at c411
 clear h hx
 go_enter Tryz.func48, Tryz.ntmps48
 go_wp2
 go_ret
 exact ⟨rfl, bw0⟩

set_option maxRecDepth 100000 in
set_option maxHeartbeats 4000000 in
theorem enter_any (B : Nat) (n : Nt) (ka ksh kst : Option Addr) (kca kcsh kcst : Nat) (s : Sp) (long sp : Int) (xs : List St) (x : St) (w : World) (h : GB w B (.slice ka n.pieces.length kca) (.slice ksh n.joints.length kcsh) (.slice kst n.pieces.length kcst) s long sp xs)
  (hkO : ∀ wb, OnB B w wb → PcsAt 0 wb ka n.pieces) (hkB : ∀ b off, ka = some ⟨b, off, none⟩ → b ≠ B) (hx : xs.length < 200) (hxo : StepOk n x) :
  Calls Tryz.prog 48 #[.pointer (some ⟨B, 0, none⟩), .agg #[.int .i64 x.piece, .int .i64 x.way]] w fun e w' => e = .returned (.bool true) ∧ GB w' B (.slice ka n.pieces.length kca) (.slice ksh n.joints.length kcsh) (.slice kst n.pieces.length kcst) ⟨x.piece, if x.way = -1 then lenOf n x.piece else 0, x.way⟩ long sp (⟨s.piece, s.way⟩ :: xs) ∧ OnB B w w' := by
 have hB := h.lt
 obtain ⟨c0, c1, c2, c3, _, _, _, _, c411⟩ := h.cells
 have hne : ((xs.length : Int) == 200) = false := by rw [beq_eq_false_iff_ne]; omega
 have H := hide h
 have HKO := hide hkO
 have HXO := hide hxo
 have HKB := hide hkB
 obtain ⟨xp, xy⟩ := x
 have hBA : Below w.heap.size w (w.alloc (.cells #[.int .i64 xp, .int .i64 xy] 67)) := bw0
 have nB1 : ¬ w.heap.size = B := by omega
 have nB2 : ¬ B = w.heap.size := by omega
 clear h hkO hxo hkB
 dsimp only
 go_enter Tryz.func48, Tryz.ntmps48
 go_wp2_with fail
 go_region_held3 (fun w' => w'.cell? ⟨B, 0, none⟩ = some (.int .i64 s.piece) ∧ w'.cell? ⟨B, 1, none⟩ = some (.int .i64 s.at_) ∧ w'.cell? ⟨B, 2, none⟩ = some (.int .i64 s.way)) (((try dsimp only); (repeat' apply And.intro)) <;> (go_keep; done))
  (first
   | (go_at_call 46; refine (step_any s _).mono ?_; rintro e w1 ⟨rfl, hb1⟩; obtain ⟨hc1, hf1⟩ := bcell hb1; have q0 := hc1 (B) (0) (by first | (simp; done) | (simp; omega) | omega); have q1 := hc1 (B) (1) (by first | (simp; done) | (simp; omega) | omega); have q2 := hc1 (B) (2) (by first | (simp; done) | (simp; omega) | omega))
   | (go_at_call 84; refine (gAddNear_any B _ _ _ s long sp xs ⟨s.piece, s.way⟩ _ ((unhide H).below (below_then bw0 hb1)) (by omega)).mono ?_; rintro e w2 ⟨⟨v2, rfl⟩, hg2, ho2⟩; obtain ⟨d0, d1, d2, d3, _⟩ := hg2.cells))
 have hb1' : Below w.heap.size w w1 := below_then bw0 hb1
 have hO2 : OnB B w w2 := (onB_below hb1').trans ho2
 have hX2 : Boxed w2 w.heap.size [.int .i64 xp, .int .i64 xy] := by
  have h1 : Boxed w1 w.heap.size [.int .i64 xp, .int .i64 xy] := ((boxed_alloc _ _ _).drew).below hb1
  exact h1.only ho2.ob (by omega)
 have hz2 : ∀ j, j < 412 → w2.frozen? ⟨B, j, none⟩ = false := by
  obtain ⟨f, fs, ho, _⟩ := hg2
  exact fun j hj => by simpa using (ho.2 j hj).2
 have z0 := hz2 0 (by omega)
 have z1 := hz2 1 (by omega)
 have z2 := hz2 2 (by omega)
 have x0 := hX2.2.1 0 _ rfl
 have x1 := hX2.2.1 1 _ rfl
 have hB2 := hg2.lt
 have hXl := hX2.1
 have hg3 := (((hg2.set.1 xp).set.2.1 0).set.2.2.1 xy)
 have HG3 := hide hg3
 have HO2 := hide hO2
 have hxo := unhide HXO
 have hx0 := hxo.1
 have hy := hxo.2
 dsimp only at hx0 hy
 obtain ⟨pb, poff, hka, hpb, p1⟩ := (unhide HKO w2 hO2).len hx0.1 hx0.2
 subst hka
 obtain ⟨xn, rfl⟩ := Int.eq_ofNat_of_zero_le hx0.1
 simp only [Int.toNat_natCast] at p1
 have hO3 : OnB B w (((w2.setCell ⟨B, 0, none⟩ (.int .i64 xn)).setCell ⟨B, 1, none⟩ (.int .i64 0)).setCell ⟨B, 2, none⟩ (.int .i64 xy)) :=
  ((hO2.trans (onB_set _ (p := ⟨B, 0, none⟩) rfl _)).trans (onB_set _ (p := ⟨B, 1, none⟩) rfl _)).trans (onB_set _ (p := ⟨B, 2, none⟩) rfl _)
 have HO3 := hide hO3
 clear hg2 hg3 hO2 hO3 hz2 hxo c0 c1 c2 c3 c411 ho2
 rcases hy with rfl | rfl
 ·go_wp2
  go_ret
  refine ⟨rfl, ?_, unhide HO3⟩
  simpa using unhide HG3
 ·have HG4 := hide ((unhide HG3).set.2.1 (lenOf n xn))
  have HO4 := hide ((unhide HO3).trans (onB_set _ (p := ⟨B, 1, none⟩) rfl (.int .i64 (lenOf n xn))))
  have npB : ¬ pb = B := unhide HKB pb poff rfl
  have npB2 : ¬ B = pb := fun h => npB h.symm
  go_wp2_with fail
  go_region
  go_wp2
  go_ret
  refine ⟨rfl, ?_, (unhide HO4).on bw0⟩
  have := (unhide HG4).below (w' := ((((w2.setCell ⟨B, 0, none⟩ (.int .i64 xn)).setCell ⟨B, 1, none⟩ (.int .i64 0)).setCell ⟨B, 2, none⟩ (.int .i64 (-1))).setCell ⟨B, 1, none⟩ (.int .i64 (lenOf n xn))).drew) (Below.drew (Below.refl _ _))
  simpa using this

end Go.Proofs.YtjacbppeebnjfaaGreat

namespace Go.Proofs.YtjacbppeebnjfaaGreat
open Go.RowKit

def rollTo (n : Nt) (s : Sp) (far : Int) : Int := if behind n s + far ≤ lenOf n s.piece then behind n s + far else lenOf n s.piece

set_option maxRecDepth 100000 in
set_option maxHeartbeats 4000000 in
theorem roll_any (B : Nat) (n : Nt) (ka ksh kst : Option Addr) (kca kcsh kcst : Nat) (s : Sp) (long sp far : Int) (xs : List St) (w : World) (h : GB w B (.slice ka n.pieces.length kca) (.slice ksh n.joints.length kcsh) (.slice kst n.pieces.length kcst) s long sp xs)
  (hkO : ∀ wb, OnB B w wb → TrkAt 0 wb (.agg #[.slice ka n.pieces.length kca, .slice ksh n.joints.length kcsh, .slice kst n.pieces.length kcst]) n) (hkB : ∀ b off, ka = some ⟨b, off, none⟩ → b ≠ B) (hG : NetGood n) (hs : SpotOk n s) (hxs : ∀ x ∈ xs, StepOk n x) (hsp : 0 ≤ sp ∧ sp ≤ 10000000) (hfar : 0 ≤ far ∧ far ≤ 10000) :
  Calls Tryz.prog 49 #[.pointer (some ⟨B, 0, none⟩), .int .i64 far] w fun e w' =>
   e = .returned (.agg #[.int .i64 s.piece, .int .i64 s.way, .int .i64 (behind n s), .int .i64 (rollTo n s far)])
   ∧ GB w' B (.slice ka n.pieces.length kca) (.slice ksh n.joints.length kcsh) (.slice kst n.pieces.length kcst) ⟨s.piece, s.at_ + s.way * (rollTo n s far - behind n s), s.way⟩ long (leaveR n (sp + (rollTo n s far - behind n s)) xs.reverse).1 (leaveR n (sp + (rollTo n s far - behind n s)) xs.reverse).2.reverse ∧ OnB B w w' := by
 obtain ⟨fp, fa, fy⟩ := s
 obtain ⟨fn, rfl⟩ : ∃ fn : Nat, fp = fn := Int.eq_ofNat_of_zero_le hs.1.1
 have hB := h.lt
 obtain ⟨c0, c1, c2, c3, c4, c5, _, c7, _⟩ := h.cells
 have hlen := hG.len hs.1.1 hs.1.2
 have hbe := spot_behind hG hs
 have hble : behind n ⟨fn, fa, fy⟩ ≤ lenOf n fn := by
  have h3 := hs.2.2
  unfold behind room
  dsimp only at h3 ⊢
  split <;> omega
 dsimp only at hlen c0 c1 c2
 have hyy := hs.2.1
 have haa := hs.2.2
 dsimp only at hyy haa
 have H := hide h
 have HKO := hide hkO
 have HXS := hide hxs
 have HS := hide hs
 have HKB := hide hkB
 clear h hkO hxs hkB
 go_enter Tryz.func49, Tryz.ntmps49
 go_wp2_with fail
 go_region_held3 (fun w' => w'.cell? ⟨B, 0, none⟩ = some (.int .i64 fn) ∧ w'.cell? ⟨B, 1, none⟩ = some (.int .i64 fa) ∧ w'.cell? ⟨B, 2, none⟩ = some (.int .i64 fy) ∧ w'.cell? ⟨B, 3, none⟩ = some (.slice ka n.pieces.length kca) ∧ w'.cell? ⟨B, 4, none⟩ = some (.slice ksh n.joints.length kcsh) ∧ w'.cell? ⟨B, 5, none⟩ = some (.slice kst n.pieces.length kcst)) (((try dsimp only); (repeat' apply And.intro)) <;> (go_keep; done))
  (first
   | (go_at_call 44; refine (kbehind_any _ n ⟨fn, fa, fy⟩ _ ((unhide HKO w (onB_refl _ _)).below bw0) (unhide HS) hlen.2).mono ?_; rintro e w1 ⟨rfl, hb1⟩; obtain ⟨hc1, hf1⟩ := bcell hb1; have q0 := hc1 (B) (0) (by first | (simp; done) | (simp; omega) | omega); have q1 := hc1 (B) (1) (by first | (simp; done) | (simp; omega) | omega); have q2 := hc1 (B) (2) (by first | (simp; done) | (simp; omega) | omega); have q3 := hc1 (B) (3) (by first | (simp; done) | (simp; omega) | omega); have q4 := hc1 (B) (4) (by first | (simp; done) | (simp; omega) | omega); have q5 := hc1 (B) (5) (by first | (simp; done) | (simp; omega) | omega)))
 have hbw1 : Below w.heap.size w w1 := below_then bw0 hb1
 have hR1 : Boxed w1 w.heap.size [.int .i64 0, .int .i64 0, .int .i64 0, .int .i64 0] := ((boxed_alloc _ _ _).drew).below hb1
 have hg1 := (unhide H).below hbw1
 obtain ⟨d0, d1, d2, d3, d4, d5, _, d7, _⟩ := hg1.cells
 have HG1 := hide hg1
 have hz1 : ∀ j, j < 412 → w1.frozen? ⟨B, j, none⟩ = false := by
  obtain ⟨f, fs, ho, _⟩ := hg1
  exact fun j hj => by simpa using (ho.2 j hj).2
 have z1 := hz1 1 (by omega)
 have z7 := hz1 7 (by omega)
 have hB1 := hg1.lt
 clear hg1 hz1 c0 c1 c2 c3 c4 c5 c7 q0 q1 q2 q3 q4 q5 hc1 hf1
 obtain ⟨pb, poff, hka, hpb, p1⟩ := ((unhide HKO w1 (onB_below hbw1)).pcs).len hs.1.1 hs.1.2
 subst hka
 have npB : ¬ pb = B := unhide HKB pb poff rfl
 have npB2 : ¬ B = pb := fun h => npB h.symm
 dsimp only at p1 d0 d1 d2
 simp only [Int.toNat_natCast] at p1
 have hs0 := hs.1
 dsimp only at hs0
 obtain ⟨beh, hbeq⟩ : ∃ beh, behind n ⟨fn, fa, fy⟩ = beh := ⟨_, rfl⟩
 obtain ⟨hi, hhi⟩ : ∃ hi, rollTo n ⟨fn, fa, fy⟩ far = hi := ⟨_, rfl⟩
 have hmin : hi = if beh + far ≤ lenOf n fn then beh + far else lenOf n fn := by rw [← hhi, ← hbeq]; rfl
 rw [hbeq] at hbe hble ⊢
 have HBE := hide hbeq
 have HHI := hide hhi
 have hhib : beh ≤ hi ∧ hi ≤ lenOf n fn ∧ hi ≤ beh + far := by rw [hmin]; split <;> omega
 have HMIN := hide hmin
 clear hbeq hhi hmin
 go_wp2_with fail
 go_quiet (fail)
 have hif : (if lenOf n fn < beh + far then lenOf n fn else beh + far) = hi := by rw [unhide HMIN]; split <;> split <;> omega
 rw [hif]
 clear hif
 rcases hyy with rfl | rfl
 ·have wa := wrap_small (x := hi - beh) (by omega) (by omega)
  have wb := wrap_small (x := 1 * (hi - beh)) (by omega) (by omega)
  have wd := wrap_small (x := fa + (hi - beh)) (by omega) (by omega)
  go_wp2_with fail
  go_region
  go_wp2_with fail
  have hbD : Below w1.heap.size w1 (w1.drewN (nq + 1)) := bw0
  have hgX := ((((unhide HG1).below hbD).set.2.1 (fa + (hi - beh))).set.2.2.2 (sp + (hi - beh)))
  have hOX : OnB B w (((w1.drewN (nq + 1)).setCell ⟨B, 1, none⟩ (.int .i64 (fa + (hi - beh)))).setCell ⟨B, 7, none⟩ (.int .i64 (sp + (hi - beh)))) := ((onB_below (below_then hbw1 hbD)).trans (onB_set _ (p := ⟨B, 1, none⟩) rfl _)).trans (onB_set _ (p := ⟨B, 7, none⟩) rfl _)
  have hRX := ((hR1.below hbD).apart (p := ⟨B, 1, none⟩) (show w.heap.size ≠ B by omega) (.int .i64 (fa + (hi - beh)))).apart (p := ⟨B, 7, none⟩) (show w.heap.size ≠ B by omega) (.int .i64 (sp + (hi - beh)))
  refine (leaveBehind_any B n _ ksh kst kca kcsh kcst ⟨fn, fa + (hi - beh), 1⟩ long (sp + (hi - beh)) xs _ hgX (fun wb ho => (unhide HKO wb (hOX.trans ho)).pcs) hG (unhide HXS) ⟨by omega, by omega⟩).mono ?_
  rintro e w2 ⟨⟨v2, rfl⟩, hg2, ho2⟩
  obtain ⟨g0, g1, g2, _⟩ := hg2.cells
  have hR2 := hRX.only ho2.ob (by omega)
  have HG2 := hide hg2
  have HO2 := hide (hOX.trans ho2)
  have hB2 := hg2.lt
  clear hg2 hgX hOX hRX d0 d1 d2 d3 d4 d5 d7 wa wb wd
  dsimp only at g0 g1 g2
  go_wp2_with fail
  refine (step_any ⟨fn, fa + (hi - beh), 1⟩ _).mono ?_
  rintro e w3 ⟨rfl, hb3⟩
  have hR3 := hR2.below hb3
  have r0 := hR3.2.1 0 _ rfl
  have r1 := hR3.2.1 1 _ rfl
  have r2 := hR3.2.1 2 _ rfl
  have r3 := hR3.2.1 3 _ rfl
  have rz := hR3.2.2
  have rl := hR3.1
  go_wp2
  refine bodyPost_ret (v := .agg #[.int .i64 fn, .int .i64 1, .int .i64 beh, .int .i64 hi]) (by simp [results, Tryz.results49, go_sem, r0, r1, r2, r3]) rfl ⟨by rw [unhide HHI, unhide HBE], ?_, ((unhide HO2).trans (onB_below hb3)).on bw0⟩
  rw [unhide HHI, unhide HBE]
  obtain ⟨f, fs, ho, hbi⟩ := (unhide HG2).below hb3
  refine ⟨f, fs, ho.of_block ?_ (by simp [World.setCell]), ?_⟩
  ·rw [Below.heap_setCell _ _ _ B (by simp; omega), Below.heap_setCell _ _ _ B (by simp; omega), Below.heap_setCell _ _ _ B (by simp; omega), Below.heap_setCell _ _ _ B (by simp; omega)]
  ·simpa using hbi
 ·have wa := wrap_small (x := hi - beh) (by omega) (by omega)
  have wb := wrap_small (x := (-1) * (hi - beh)) (by omega) (by omega)
  have wd := wrap_small (x := fa + (-(hi - beh))) (by omega) (by omega)
  go_wp2_with fail
  go_region
  go_wp2_with fail
  have hbD : Below w1.heap.size w1 (w1.drewN (nq + 1)) := bw0
  have hgX := ((((unhide HG1).below hbD).set.2.1 (fa + (-(hi - beh)))).set.2.2.2 (sp + (hi - beh)))
  have hOX : OnB B w (((w1.drewN (nq + 1)).setCell ⟨B, 1, none⟩ (.int .i64 (fa + (-(hi - beh))))).setCell ⟨B, 7, none⟩ (.int .i64 (sp + (hi - beh)))) := ((onB_below (below_then hbw1 hbD)).trans (onB_set _ (p := ⟨B, 1, none⟩) rfl _)).trans (onB_set _ (p := ⟨B, 7, none⟩) rfl _)
  have hRX := ((hR1.below hbD).apart (p := ⟨B, 1, none⟩) (show w.heap.size ≠ B by omega) (.int .i64 (fa + (-(hi - beh))))).apart (p := ⟨B, 7, none⟩) (show w.heap.size ≠ B by omega) (.int .i64 (sp + (hi - beh)))
  refine (leaveBehind_any B n _ ksh kst kca kcsh kcst ⟨fn, fa + (-(hi - beh)), (-1)⟩ long (sp + (hi - beh)) xs _ hgX (fun wb ho => (unhide HKO wb (hOX.trans ho)).pcs) hG (unhide HXS) ⟨by omega, by omega⟩).mono ?_
  rintro e w2 ⟨⟨v2, rfl⟩, hg2, ho2⟩
  obtain ⟨g0, g1, g2, _⟩ := hg2.cells
  have hR2 := hRX.only ho2.ob (by omega)
  have HG2 := hide hg2
  have HO2 := hide (hOX.trans ho2)
  have hB2 := hg2.lt
  clear hg2 hgX hOX hRX d0 d1 d2 d3 d4 d5 d7 wa wb wd
  dsimp only at g0 g1 g2
  go_wp2_with fail
  refine (step_any ⟨fn, fa + (-(hi - beh)), (-1)⟩ _).mono ?_
  rintro e w3 ⟨rfl, hb3⟩
  have hR3 := hR2.below hb3
  have r0 := hR3.2.1 0 _ rfl
  have r1 := hR3.2.1 1 _ rfl
  have r2 := hR3.2.1 2 _ rfl
  have r3 := hR3.2.1 3 _ rfl
  have rz := hR3.2.2
  have rl := hR3.1
  go_wp2
  refine bodyPost_ret (v := .agg #[.int .i64 fn, .int .i64 (-1), .int .i64 beh, .int .i64 hi]) (by simp [results, Tryz.results49, go_sem, r0, r1, r2, r3]) rfl ⟨by rw [unhide HHI, unhide HBE], ?_, ((unhide HO2).trans (onB_below hb3)).on bw0⟩
  rw [unhide HHI, unhide HBE]
  obtain ⟨f, fs, ho, hbi⟩ := (unhide HG2).below hb3
  refine ⟨f, fs, ho.of_block ?_ (by simp [World.setCell]), ?_⟩
  ·rw [Below.heap_setCell _ _ _ B (by simp; omega), Below.heap_setCell _ _ _ B (by simp; omega), Below.heap_setCell _ _ _ B (by simp; omega), Below.heap_setCell _ _ _ B (by simp; omega)]
  ·simpa using hbi

end Go.Proofs.YtjacbppeebnjfaaGreat

