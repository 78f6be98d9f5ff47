import Derived.Test.YtjacbppeebnjfaaGreatMPm1
import Derived.Test.YtjacbppeebnjfaaGreatMPs4
set_option linter.unusedSimpArgs false
namespace Go.Proofs.YtjacbppeebnjfaaGreat
open Go.RowKit

structure AxAt (w : World) (H : Nat) (ax : List Int) (M : List Mrk) (F : Int) (i : Nat) (v : Value) (qs : List (Wh × Value)) (wr : World) : Prop where
 at_ : HpAt wr H (H + 1) v qs
 hp : HeapQ qs
 few : qs.length ≤ i
 lower : ∀ q ∈ qs, q.1.axle < (i : Int)
 two : ∀ a b, a < qs.length → b < qs.length → a ≠ b → OtherAx (qs.getD a noWv).1 (qs.getD b noWv).1
 ok : ∀ q ∈ qs, WhOk q.1 ∧ q.1.ms.length ≤ 1000000
 all : ∀ t, (TgOf ax M F t ∧ t.i < i) ↔ ∃ q ∈ qs, t ∈ remW q.1
 bel : Below w.heap.size w wr
theorem AxAt.skip {w : World} {H : Nat} {ax : List Int} {M : List Mrk} {F : Int} {i : Nat} {v : Value} {qs : List (Wh × Value)} {wr w' : World} (h : AxAt w H ax M F i v qs wr) {a : Int} (ha : ax[i]? = some a) (hno : ∀ m ∈ M, ¬ (1 - a ≤ m.far ∧ m.far < F - a + 1)) (hb : Below wr.heap.size wr w') : AxAt w H ax M F (i + 1) v qs w' := by
 refine ⟨h.at_.below hb, h.hp, by have := h.few; omega, fun q hq => by have := h.lower q hq; omega, h.two, h.ok, fun t => ?_, h.bel.trans (hb.mono h.bel.size)⟩
 rw [← h.all t]
 constructor
 ·rintro ⟨ht, hi⟩
  refine ⟨ht, ?_⟩
  rcases Nat.lt_or_ge t.i i with e | e
  ·exact e
  ·obtain rfl : t.i = i := by omega
   obtain ⟨h1, h2, a', h3, h4⟩ := ht
   rw [ha] at h3
   cases h3
   exact absurd ⟨by dsimp only; omega, by dsimp only; omega⟩ (hno _ h4)
 ·rintro ⟨ht, hi⟩
  exact ⟨ht, by omega⟩
theorem AxAt.add {w : World} {H : Nat} {ax : List Int} {M : List Mrk} {F : Int} {i : Nat} {v v' : Value} {qs ps : List (Wh × Value)} {wr w' : World} (h : AxAt w H ax M F i v qs wr) {a : Int} (ha : ax[i]? = some a) {ms : List Mrk} {sv : Value} (hm : ∀ m, m ∈ ms ↔ m ∈ M ∧ 1 - a ≤ m.far ∧ m.far < F - a + 1) (hne : ms ≠ []) (hs : ms.Pairwise Mlt) (hl : ms.length ≤ 1000000)
  (hH : w.heap.size ≤ H) (hP : HpAt w' H (H + 1) v' ps) (hT : HpTo H wr v w' v') (hS : SameQ (qs ++ [(⟨(i : Int), a, ms⟩, sv)]) ps) (hQ : HeapQ ps) : AxAt w H ax M F (i + 1) v' ps w' := by
 have hlen := hS.1
 rw [List.length_append, List.length_singleton] at hlen
 have hmem : ∀ q, q ∈ ps ↔ q ∈ qs ∨ q = (⟨(i : Int), a, ms⟩, sv) := fun q => by rw [hS.2.1 q, List.mem_append, List.mem_singleton]
 refine ⟨hP, hQ, by have := h.few; omega, fun q hq => ?_, hS.2.2 (fun x y hx hy hxy => ?_), fun q hq => ?_, fun t => ?_, ?_⟩
 ·rcases (hmem q).1 hq with e | rfl
  ·have := h.lower q e; omega
  ·dsimp only; omega
 ·rw [List.length_append, List.length_singleton] at hx hy
  have last : (qs ++ [((⟨(i : Int), a, ms⟩ : Wh), sv)]).getD qs.length noWv = (⟨(i : Int), a, ms⟩, sv) := by
   rw [List.getD_eq_getElem?_getD, List.getElem?_append_right (Nat.le_refl _)]
   simp
  have old : ∀ k, k < qs.length → (qs ++ [((⟨(i : Int), a, ms⟩ : Wh), sv)]).getD k noWv = qs.getD k noWv := fun k hk => getD_app hk
  have inq : ∀ k, k < qs.length → (qs.getD k noWv).1.axle < (i : Int) := fun k hk => h.lower _ ((mem_getD (d := noWv)).2 ⟨k, hk, rfl⟩)
  unfold OtherAx
  rcases Nat.lt_or_ge x qs.length with e1 | e1 <;> rcases Nat.lt_or_ge y qs.length with e2 | e2
  ·rw [old x e1, old y e2]
   exact h.two x y e1 e2 hxy
  ·obtain rfl : y = qs.length := by omega
   rw [old x e1, last]
   have := inq x e1
   dsimp only
   omega
  ·obtain rfl : x = qs.length := by omega
   rw [old y e2, last]
   have := inq y e2
   dsimp only
   omega
  ·omega
 ·rcases (hmem q).1 hq with e | rfl
  ·exact h.ok q e
  ·exact ⟨⟨hne, hs, by dsimp only; omega⟩, hl⟩
 ·have hx : t ∈ remW ⟨(i : Int), a, ms⟩ ↔ TgOf ax M F t ∧ t.i = i := by
   unfold remW
   rw [List.mem_map]
   constructor
   ·rintro ⟨m, hm', rfl⟩
    obtain ⟨g1, g2, g3⟩ := (hm m).1 hm'
    refine ⟨⟨?_, ?_, a, ?_, ?_⟩, ?_⟩
    ·show 1 ≤ m.far + a; omega
    ·show m.far + a ≤ F; omega
    ·show ax[((i : Int)).toNat]? = some a
     simpa using ha
    ·show (⟨m.far + a - a, m.post, m.way⟩ : Mrk) ∈ M
     rw [show m.far + a - a = m.far by omega]
     exact g1
    ·show ((i : Int)).toNat = i
     simp
   ·rintro ⟨⟨h1, h2, a', h3, h4⟩, hi⟩
    rw [hi, ha] at h3
    cases h3
    refine ⟨_, (hm _).2 ⟨h4, by dsimp only; omega, by dsimp only; omega⟩, ?_⟩
    obtain ⟨tk, ti, tp, ty⟩ := t
    dsimp only at hi
    subst hi
    simp [tagM]
  constructor
  ·rintro ⟨ht, hi⟩
   rcases Nat.lt_or_ge t.i i with e | e
   ·obtain ⟨q, hq, hr⟩ := (h.all t).1 ⟨ht, e⟩
    exact ⟨q, (hmem q).2 (Or.inl hq), hr⟩
   ·exact ⟨_, (hmem _).2 (Or.inr rfl), hx.2 ⟨ht, by omega⟩⟩
  ·rintro ⟨q, hq, hr⟩
   rcases (hmem q).1 hq with e | rfl
   ·obtain ⟨g1, g2⟩ := (h.all t).2 ⟨q, e, hr⟩
    exact ⟨g1, by omega⟩
   ·obtain ⟨g1, g2⟩ := hx.1 hr
    exact ⟨g1, by omega⟩
 ·refine h.bel.trans ⟨hT.os, hT.tape, hT.output, hT.size, fun k hk => hT.block k (Nat.lt_of_lt_of_le hk h.bel.size) (by omega) (fun e => ?_)⟩
  have := (h.at_.row.lt k e).1
  omega
theorem MksAt.take {w : World} {a : Option Addr} {ms : List Mrk} (h : MksAt w a ms) (k : Nat) : MksAt w a (ms.take k) := fun j hj => by
 rw [List.length_take] at hj
 obtain ⟨b, off, e, hl, h1, h2, h3⟩ := h j (by omega)
 exact ⟨b, off, e, hl, by rw [List.getElem_take]; exact h1, by rw [List.getElem_take]; exact h2, by rw [List.getElem_take]; exact h3⟩
theorem cnt_facts {M : List Mrk} (h : M.Pairwise Mlt) (f : Int) : cntLt M f ≤ M.length ∧ (∀ j (hj : j < M.length), j < cntLt M f → M[j].far < f) ∧ ∀ j (hj : j < M.length), cntLt M f ≤ j → f ≤ M[j].far := by
 unfold cntLt
 induction M with
 | nil => simp
 | cons m r ih =>
  obtain ⟨h1, h2⟩ := List.pairwise_cons.1 h
  obtain ⟨i1, i2, i3⟩ := ih h2
  rw [List.takeWhile_cons]
  by_cases hm : m.far < f
  ·rw [if_pos (by simpa using hm)]
   simp only [List.length_cons]
   refine ⟨by omega, fun j hj hlt => ?_, fun j hj hle => ?_⟩
   ·cases j with
    | zero => exact hm
    | succ j => exact i2 j (by omega) (by omega)
   ·cases j with
    | zero => omega
    | succ j => exact i3 j (by omega) (by omega)
  ·rw [if_neg (by simpa using hm)]
   refine ⟨by simp, fun j hj hlt => by simp at hlt, fun j hj _ => ?_⟩
   cases j with
   | zero => show f ≤ m.far; omega
   | succ j =>
    have := h1 _ (List.getElem_mem (by simpa using hj : j < r.length))
    unfold Mlt at this
    have hj' : j < r.length := by simpa using hj
    show f ≤ (r[j]'hj').far
    omega

end Go.Proofs.YtjacbppeebnjfaaGreat

set_option linter.unusedSimpArgs false
namespace Go.Proofs.YtjacbppeebnjfaaGreat
open Go.RowKit

theorem HpTo.bel {w0 : World} {H : Nat} {w w' : World} {v v' : Value} {qs : List (Wh × Value)} (hT : HpTo H w v w' v') (h : HpAt w H (H + 1) v qs) (hb : Below w0.heap.size w0 w) (hH : w0.heap.size ≤ H) : Below w0.heap.size w0 w' :=
 hb.trans ⟨hT.os, hT.tape, hT.output, hT.size, fun k hk => hT.block k (Nat.lt_of_lt_of_le hk hb.size) (by omega) (fun e => by have := (h.row.lt k e).1; omega)⟩
structure Pre (T : Tg → Prop) (w : World) (H : Nat) (u v : Value) (qs : List (Wh × Value)) (L : List Tg) (wr : World) : Prop where
 at_ : HpAt wr H (H + 1) v qs
 hp : HeapQ qs
 row : PaRow wr (H + 1) u (L.map Tg.un)
 len : ∀ q ∈ qs, q.1.ms.length ≤ 1000000
 merge : Merge T (qs.map Prod.fst) L
 bel : Below w.heap.size w wr
 cnt : qs.length ≤ 100
structure Cur (T : Tg → Prop) (w : World) (H B : Nat) (u v : Value) (ps : List (Wh × Value)) (L : List Tg) (x : Wh) (a : Option Addr) (c : Nat) (wr : World) : Prop where
 at_ : HpAt wr H (H + 1) v ps
 hp : HeapQ ps
 row : PaRow wr (H + 1) u (L.map Tg.un)
 len : ∀ q ∈ ps, q.1.ms.length ≤ 1000000
 box : Boxed wr B [.int .i64 x.axle, .int .i64 x.back, .slice a x.ms.length c]
 msin : MsIn wr H (x, .slice a x.ms.length c)
 fit : WhFit x
 xl : x.ms.length ≤ 1000000
 merge : Merge T (x :: ps.map Prod.fst) L
 min : ∀ q ∈ ps, ¬ bef q.1 x
 own : u.ownBlock ≠ some B ∧ v.ownBlock ≠ some B
 hB : H < B
 bel : Below w.heap.size w wr
 cnt : ps.length ≤ 99
theorem Pre.below {T : Tg → Prop} {w : World} {H : Nat} {u v : Value} {qs : List (Wh × Value)} {L : List Tg} {wr w' : World} (h : Pre T w H u v qs L wr) (hb : Below wr.heap.size wr w') : Pre T w H u v qs L w' :=
 ⟨h.at_.below hb, h.hp, h.row.below hb, h.len, h.merge, h.bel.trans (hb.mono h.bel.size), h.cnt⟩
theorem row_hp {H : Nat} {w w' : World} {u v v' : Value} {L : List (Int × Int × Int)} {qs : List (Wh × Value)} (h : PaRow w (H + 1) u L) (ha : HpAt w H (H + 1) v qs) (hT : HpTo H w v w' v') : PaRow w' (H + 1) u L :=
 h.block fun k hk => hT.block k (h.lt k hk).2 (fun e => by have := (h.lt k hk).1; omega) (fun e => Row.apart h ha.row (by decide) k hk e)
theorem Pre.pop {T : Tg → Prop} {w : World} {H : Nat} {u v : Value} {qs : List (Wh × Value)} {L : List Tg} {wr w' : World} (h : Pre T w H u v qs L wr) (hH : w.heap.size ≤ H) {x : Wh} {a : Option Addr} {c : Nat} (hq0 : qs.getD 0 noWv = (x, .slice a x.ms.length c)) (hP : PopTo wr H (H + 1) v qs x a c w') :
  ∃ v' ps, HpAt w' H (H + 1) v' ps ∧ HpTo H wr v w' v' ∧ HeapQ ps ∧ PaRow w' (H + 1) u (L.map Tg.un) ∧ (∀ q ∈ ps, q.1.ms.length ≤ 1000000) ∧ MsIn w' H (x, .slice a x.ms.length c) ∧ WhFit x ∧ x.ms.length ≤ 1000000 ∧ Merge T (x :: ps.map Prod.fst) L ∧ (∀ q ∈ ps, ¬ bef q.1 x) ∧ (Below w.heap.size w w' ∧ ps.length ≤ 99) := by
 obtain ⟨v', ps, hA, hT, hQ, hmem, hln, htwo⟩ := hP.st
 have hx : (x, Value.slice a x.ms.length c) ∈ qs := (hmem _).2 (Or.inl rfl)
 have hqs : ∀ q ∈ ps, q ∈ qs := fun q hq => (hmem q).2 (Or.inr hq)
 have ht := h.merge.two
 have ht' : ∀ i j, i < qs.length → j < qs.length → i ≠ j → OtherAx (qs.getD i noWv).1 (qs.getD j noWv).1 := fun i j hi hj hij => by
  have := ht i j (by rw [List.length_map]; exact hi) (by rw [List.length_map]; exact hj) hij
  rw [show noWh = Prod.fst noWv from rfl, getD_map, getD_map] at this
  exact this
 obtain ⟨t1, t2⟩ := htwo ht'
 refine ⟨v', ps, hA, hT, hQ, row_hp h.row h.at_ hT, fun q hq => h.len q (hqs q hq), (h.at_.ms _ hx).blocks hT.size (fun k hk hl => hT.block k hl (by omega) (fun e => by have := (h.at_.row.lt k e).1; omega)), h.at_.fit _ hx, h.len _ hx, h.merge.same (fun y => ?_) ?_, fun q hq => ?_, hT.bel h.at_ h.bel hH, by have := h.cnt; omega⟩
 ·rw [List.mem_cons, List.mem_map, List.mem_map]
  constructor
  ·rintro (rfl | ⟨q, hq, rfl⟩)
   ·exact ⟨_, hx, rfl⟩
   ·exact ⟨q, hqs q hq, rfl⟩
  ·rintro ⟨q, hq, rfl⟩
   rcases (hmem q).1 hq with rfl | hq
   ·exact Or.inl rfl
   ·exact Or.inr ⟨q, hq, rfl⟩
 ·intro i j hi hj hij
  rw [List.length_cons, List.length_map] at hi hj
  have g0 : (x :: ps.map Prod.fst).getD 0 noWh = x := rfl
  have gs : ∀ k, (x :: ps.map Prod.fst).getD (k + 1) noWh = (ps.getD k noWv).1 := fun k => by
   rw [show (x :: ps.map Prod.fst).getD (k + 1) noWh = (ps.map Prod.fst).getD k noWh from rfl, show noWh = Prod.fst noWv from rfl, getD_map]
  have inp : ∀ k, k < ps.length → ps.getD k noWv ∈ ps := fun k hk => (mem_getD (d := noWv)).2 ⟨k, hk, rfl⟩
  cases i with
  | zero =>
   cases j with
   | zero => omega
   | succ j =>
    rw [g0, gs]
    exact fun e => t2 _ (inp j (by omega)) e.symm
  | succ i =>
   cases j with
   | zero =>
    rw [g0, gs]
    exact t2 _ (inp i (by omega))
   | succ j =>
    rw [gs, gs]
    exact t1 i j (by omega) (by omega) (by omega)
 ·obtain ⟨j, hj, rfl⟩ := (mem_getD (d := noWv)).1 (hqs q hq)
  have := heap_min (R := fun x y : Wh × Value => bef x.1 y.1) (fun x y z => bef_trans x.1 y.1 z.1) (fun x => bef_irr x.1) h.hp j hj
  rw [hq0] at this
  exact this
theorem Cur.of_pop {T : Tg → Prop} {w : World} {H B : Nat} {u v : Value} {ps : List (Wh × Value)} {L : List Tg} {x : Wh} {a : Option Addr} {c : Nat} {w1 w2 : World} (hA : HpAt w1 H (H + 1) v ps) (hQ : HeapQ ps) (hr : PaRow w1 (H + 1) u (L.map Tg.un)) (hl : ∀ q ∈ ps, q.1.ms.length ≤ 1000000) (hm : MsIn w1 H (x, .slice a x.ms.length c)) (hf : WhFit x) (hx : x.ms.length ≤ 1000000) (hM : Merge T (x :: ps.map Prod.fst) L) (hn : ∀ q ∈ ps, ¬ bef q.1 x) (hbc : Below w.heap.size w w1 ∧ ps.length ≤ 99)
  (ho : Only (fun j => j = B) w1 w2) (hB : H < B) (hH : w.heap.size ≤ H) (o1 : u.ownBlock ≠ some B) (o2 : v.ownBlock ≠ some B) (bx : Boxed w2 B [.int .i64 x.axle, .int .i64 x.back, .slice a x.ms.length c]) : Cur T w H B u v ps L x a c w2 :=
 ⟨hA.only1 ho hB o2, hQ, hr.only ho (fun k hk (e : k = B) => o1 (by rw [hk, e])), hl, bx, hm.blocks ho.size (fun k hk hl => ho.block k hl (show ¬ k = B by omega)), hf, hx, hM, hn, ⟨o1, o2⟩, hB, hbc.1.trans ⟨ho.os, ho.tape, ho.output, ho.size, fun k hk => ho.block k (Nat.lt_of_lt_of_le hk hbc.1.size) (show ¬ k = B by omega)⟩, hbc.2⟩
theorem HpAt.psg {w w' : World} {H B : Nat} {u u' v : Value} {L : List (Int × Int × Int)} {qs : List (Wh × Value)} (h : HpAt w H (H + 1) v qs) (hr : PaRow w (H + 1) u L) (hT : HpTo B w u w' u') (hB : H < B) (ho : v.ownBlock ≠ some B) : HpAt w' H (H + 1) v qs := by
 have hu : ∀ k, k ≤ H → u.ownBlock ≠ some k := fun k hk e => by have := (hr.lt k e).1; omega
 have hbH := hT.block H h.box.1 (by omega) (hu H (Nat.le_refl _))
 exact ⟨⟨Nat.lt_of_lt_of_le h.box.1 hT.size, fun i x hi => by rw [World.cell?_of_block (w := w) (a := ⟨H, i, none⟩) hbH]; exact h.box.2.1 i x hi, fun i => by rw [World.frozen?_of_block (w := w) (a := ⟨H, i, none⟩) hbH]; exact h.box.2.2 i⟩,
  h.row.block fun k hk => hT.block k (h.row.lt k hk).2 (fun e => ho (by rw [hk, e])) (fun e => Row.apart hr h.row (by decide) k e hk), h.lo, fun q hq => (h.ms q hq).blocks hT.size (fun k hk hl => hT.block k hl (by omega) (hu k (by omega))), h.fit, h.few, Nat.le_trans h.top hT.size⟩
theorem HpTo.belB {w0 w w' : World} {H B : Nat} {u u' : Value} {L : List (Int × Int × Int)} (hT : HpTo B w u w' u') (hr : PaRow w (H + 1) u L) (hb : Below w0.heap.size w0 w) (hH : w0.heap.size ≤ H) (hB : H < B) : Below w0.heap.size w0 w' :=
 hb.trans ⟨hT.os, hT.tape, hT.output, hT.size, fun k hk => hT.block k (Nat.lt_of_lt_of_le hk hb.size) (by omega) (fun e => by have := (hr.lt k e).1; omega)⟩
def PgRel (T : Tg → Prop) (w : World) (H : Nat) (y p z : Value) (wr : World) : Prop :=
 (∃ B ps v L x a c, z = .bool true ∧ p = .pointer (some ⟨B, 0, none⟩) ∧ Cur T w H B y v ps L x a c wr) ∨ (∃ L, z = .bool false ∧ PaRow wr (H + 1) y (L.map Tg.un) ∧ Merge T [] L ∧ Below w.heap.size w wr)
set_option maxRecDepth 100000 in
set_option maxHeartbeats 8000000 in
theorem passings_any (M : List Mrk) (a : Option Addr) (cap : Nat) (ax : List Int) (zq : Option Addr) (zc : Nat) (F : Int) (w : World) {L' : Nat} (hm : MksAt w a M) (hcap : M.length ≤ cap) (hs : M.Pairwise Mlt) (hfit : ∀ m ∈ M, MkFit m) (hpo : ∀ m ∈ M, 0 ≤ m.post ∧ m.post < 1000) (hml : M.length ≤ 1000000) (hz : IntsAt L' w zq ax) (hax : ax.length ≤ 60) (hxb : ∀ a ∈ ax, 0 ≤ a ∧ a ≤ 200000) (hF : 0 ≤ F ∧ F ≤ 10000) :
  Calls Tryz.prog 24 #[.slice a M.length cap, .slice zq ax.length zc, .int .i64 F] w fun e w' => ∃ (u : Value) (L : List Tg), e = .returned u ∧ PaRow w' w.heap.size u (L.map Tg.un) ∧ L.Pairwise Tlt ∧ (∀ t, t ∈ L ↔ TgOf ax M F t) ∧ Below w.heap.size w w' := by
 have HM := hide hm
 have HS := hide hs
 have HFT := hide hfit
 have HPO := hide hpo
 have HZ := hide hz
 have HXB := hide hxb
 clear hm hs hfit hpo hz hxb
 obtain ⟨H, hH⟩ : ∃ H, w.heap.size = H := ⟨_, rfl⟩
 have hHw : w.heap.size ≤ H ∧ H ≤ w.heap.size := by omega
 go_enter Tryz.func24, Tryz.ntmps24
 go_wp2_with fail
 go_loopw [8, 20] (fun y z wr => ∃ (i c : Nat), z = .int .i64 i ∧ y = .int .i64 c ∧ i ≤ ax.length ∧ c ≤ i * 1000000 ∧ Hid (∃ v qs, AxAt w H ax M F i v qs wr)) (fun _ z _ => ax.length - (intOf z).toNat)
 case atStart =>
  refine ⟨0, 0, rfl, rfl, Nat.zero_le _, Nat.zero_le _, .slice none 0 0, [], ?_⟩
  refine ⟨⟨?_, Row.nil _ _ _ _ _, Nat.lt_succ_self _, (fun q hq => by cases hq), (fun q hq => by cases hq), by simp, by simp; omega⟩, (fun j _ h => by simp at h), by simp, (fun q hq => by cases hq), (fun x y h => by simp at h), (fun q hq => by cases hq), fun t => ⟨fun h => by omega, fun ⟨q, hq, _⟩ => by cases hq⟩, bw0⟩
  exact boxedN _ _ _ (by omega)
 case round =>
  obtain ⟨i, c, rfl, rfl, hi, hc, HR⟩ := hrel
  rename World => wr
  obtain ⟨v, qs, hA⟩ := unhide HR
  have HA := hide hA
  have hbw := hA.bel
  have hsz := hbw.size
  by_cases hlt : i < ax.length
  ·have hlt' : (i : Int) < (ax.length : Int) := by omega
   obtain ⟨zb, zo, rfl, hzl, z0⟩ := unhide HZ i hlt
   have z1 := (hbw.cell hzl.2).trans z0
   have hzl' : zb < wr.heap.size := Nat.lt_of_lt_of_le hzl.2 hbw.size
   have hxa := unhide HXB _ (List.getElem_mem hlt)
   have HAX : Hid (ax[i]? = some ax[i]) := List.getElem?_eq_getElem hlt
   obtain ⟨b, hb⟩ : ∃ b, ax[i] = b := ⟨_, rfl⟩
   rw [hb] at z1 hxa HAX
   have hw1 : IntKind.i64.wrap (1 - b) = 1 - b := wrap_small (by omega) (by omega)
   have hw2 : IntKind.i64.wrap (F - b) = F - b := wrap_small (by omega) (by omega)
   have hw3 : IntKind.i64.wrap (F - b + 1) = F - b + 1 := wrap_small (by omega) (by omega)
   have hw4 : IntKind.i64.wrap ((i : Int) + 1) = ((i + 1 : Nat) : Int) := (wrap_small (by omega) (by omega)).trans (by omega)
   have HBW := hide hbw
   obtain ⟨f1', hf1⟩ : ∃ f, cntLt M (1 - b) = f := ⟨_, rfl⟩
   obtain ⟨f2', hf2⟩ : ∃ f, cntLt M (F - b + 1) = f := ⟨_, rfl⟩
   obtain ⟨l1, p1, p2⟩ := cnt_facts (unhide HS) (1 - b)
   obtain ⟨l2, p3, p4⟩ := cnt_facts (unhide HS) (F - b + 1)
   rw [hf1] at l1 p1 p2
   rw [hf2] at l2 p3 p4
   have HP := hide (And.intro (And.intro p1 p2) (And.intro p3 p4))
   have HB1 : Hid (∀ W, Below wr.heap.size wr W → Calls Tryz.prog 52 #[.slice a M.length cap, .int .i64 (1 - b), .func (.func 53) #[] #[]] W fun e w' => RetIx f1' e ∧ Below W.heap.size W w') := fun W hW => hf1 ▸ bsearch_any (1 - b) M a cap W ((unhide HM).below (below_then (unhide HBW) hW)) (mlt_far (unhide HS)) hml
   have HB2 : Hid (∀ W, Below wr.heap.size wr W → Calls Tryz.prog 52 #[.slice a M.length cap, .int .i64 (F - b + 1), .func (.func 53) #[] #[]] W fun e w' => RetIx f2' e ∧ Below W.heap.size W w') := fun W hW => hf2 ▸ bsearch_any (F - b + 1) M a cap W ((unhide HM).below (below_then (unhide HBW) hW)) (mlt_far (unhide HS)) hml
   clear hA hbw hb hf1 hf2 p1 p2 p3 p4 z0 HR
   go_wp2_with fail
   refine (unhide HB1 _ (Below.refl _ _)).mono ?_
   rintro e w2 ⟨⟨b1, rfl⟩, hb2⟩
   dsimp only
   have HBA := hide hb2
   clear hb2 z1
   go_wp2_with fail
   refine (unhide HB2 _ (unhide HBA)).mono ?_
   rintro e w3 ⟨⟨b2, rfl⟩, hb3⟩
   dsimp only
   have HB3 := hide (below_then (unhide HBA) hb3)
   clear hb3 HBA
   by_cases hft : f1' < f2'
   ·have hft' : (f1' : Int) < (f2' : Int) := by omega
    have hMp : 0 < M.length := by omega
    obtain ⟨mb, off, rfl, hmb, _⟩ := unhide HM 0 hMp
    have hc1 : f2' ≤ cap := by omega
    have hc2 : f1' < cap := by omega
    have hc3 : ¬ cap - f1' = 0 := by omega
    have hc4 : (f2' : Int) ≤ (cap : Int) := by omega
    have hw5 : IntKind.i64.wrap ((f2' : Int) - (f1' : Int)) = ((f2' - f1' : Nat) : Int) := (wrap_small (by omega) (by omega)).trans (by omega)
    have hw6 : IntKind.i64.wrap ((c : Int) + ((f2' - f1' : Nat) : Int)) = ((c + (f2' - f1') : Nat) : Int) := (wrap_small (by omega) (by omega)).trans (by omega)
    obtain ⟨ms, hms⟩ : ∃ ms, (M.drop f1').take (f2' - f1') = ms := ⟨_, rfl⟩
    have hmsl : ms.length = f2' - f1' := by rw [← hms, List.length_take, List.length_drop]; omega
    have HMEM : Hid (∀ m, m ∈ ms ↔ m ∈ M ∧ 1 - b ≤ m.far ∧ m.far < F - b + 1) := by rw [← hms]; exact cut_mem l1 l2 (unhide HP).1.1 (unhide HP).1.2 (unhide HP).2.1 (unhide HP).2.2
    have HMS : Hid (ms ≠ [] ∧ ms.Pairwise Mlt ∧ ms.length ≤ 1000000) := ⟨fun e => by rw [e] at hmsl; simp at hmsl; omega, by rw [← hms]; exact take_sorted (unhide HS) _ _, by omega⟩
    have hfx : WhFit ⟨(i : Int), b, ms⟩ := ⟨⟨by dsimp only; omega, by dsimp only; omega⟩, hxa, (unhide HMS).1, fun m hm => unhide HFT m ((unhide HMEM m).1 hm).1⟩
    have hmk : MksAt w3 (some ⟨mb, off + f1' * 3, none⟩) ms := by rw [← hms]; exact (((unhide HM).below (below_then (unhide HBW) (unhide HB3))).drop f1').take _
    have hpu := push_any H (H + 1) v qs ⟨(i : Int), b, ms⟩ (some ⟨mb, off + f1' * 3, none⟩) (cap - f1') w3 ((unhide HA).at_.below (unhide HB3)) ⟨_, _, rfl, by dsimp only; omega, hmk, fun b' o e => by simp at e; omega⟩ hfx (by have := (unhide HA).few; omega) (unhide HA).hp
    dsimp only at hpu
    rw [hmsl] at hpu
    have HPU := hide hpu
    have HML := hide hmsl
    clear hpu hmk hfx hms hmsl
    go_wp2_with fail
    refine (unhide HPU).mono ?_
    rintro e w4 ⟨rfl, v', ps, hP4, hT4, hS4, hQ4⟩
    have HA4 : Hid (∃ v qs, AxAt w H ax M F (i + 1) v qs w4) := ⟨v', ps, (unhide HA).add (unhide HAX) (unhide HMEM) (unhide HMS).1 (unhide HMS).2.1 (unhide HMS).2.2 hHw.1 hP4 ((HpTo.of_below _ (unhide HB3)).trans hT4) hS4 hQ4⟩
    clear hP4 hT4 hS4 hQ4 HPU
    go_wp2_with fail
    exact ⟨⟨i + 1, c + (f2' - f1'), rfl, rfl, by omega, by omega, HA4⟩, by simp [intOf]; omega⟩
   ·have hft' : ¬ (f1' : Int) < (f2' : Int) := by omega
    have HA4 : Hid (∃ v qs, AxAt w H ax M F (i + 1) v qs w3) := ⟨v, qs, (unhide HA).skip (unhide HAX) (fun m hm h => by
     have := (cut_mem l1 l2 (unhide HP).1.1 (unhide HP).1.2 (unhide HP).2.1 (unhide HP).2.2 m).2 ⟨hm, h⟩
     rw [show f2' - f1' = 0 by omega] at this
     simp at this) (unhide HB3)⟩
    go_wp2_with fail
    exact ⟨⟨i + 1, c, rfl, rfl, by omega, Nat.le_trans hc (Nat.mul_le_mul_right _ (Nat.le_succ i)), HA4⟩, by simp [intOf]; omega⟩
  ·have hlt' : ¬ (i : Int) < (ax.length : Int) := by omega
   have hTT : ∀ t, TgOf ax M F t ↔ ∃ q ∈ qs, t ∈ remW q.1 := fun t => by
    rw [← hA.all t]
    refine ⟨fun h => ⟨h, ?_⟩, fun h => h.1⟩
    obtain ⟨_, _, _, h3, _⟩ := h
    have := (List.getElem?_eq_some_iff.1 h3).1
    omega
   have hMg : Merge (TgOf ax M F) (qs.map Prod.fst) [] := ⟨fun x hx => by
     obtain ⟨q, hq, rfl⟩ := List.mem_map.1 hx
     exact (hA.ok q hq).1, fun x y hx hy hxy => by
     rw [List.length_map] at hx hy
     rw [show noWh = Prod.fst noWv from rfl, getD_map, getD_map]
     exact hA.two x y hx hy hxy, List.Pairwise.nil, (fun t ht => by cases ht), fun t => by
     rw [hTT t]
     constructor
     ·rintro ⟨q, hq, hr⟩
      exact Or.inr ⟨q.1, List.mem_map.2 ⟨q, hq, rfl⟩, hr⟩
     ·rintro (h | ⟨x, hx, hr⟩)
      ·cases h
      ·obtain ⟨q, hq, rfl⟩ := List.mem_map.1 hx
       exact ⟨q, hq, hr⟩⟩
   have HMG := hide hMg
   clear hMg hTT hA hbw HR
   go_wp2_with fail
   refine (growA_any c wr (by omega)).mono ?_
   rintro e w5 ⟨u, rfl, hu, hb5⟩
   have hHwr : H < wr.heap.size := (unhide HA).at_.box.1
   have HPR : Hid (Pre (TgOf ax M F) w H u v qs [] w5) := ⟨(unhide HA).at_.below hb5, (unhide HA).hp, hu.mono (by omega), fun q hq => ((unhide HA).ok q hq).2, unhide HMG, (unhide HA).bel.trans (hb5.mono (unhide HA).bel.size), by have := (unhide HA).few; omega⟩
   clear hu hb5
   go_upto_region 13 with fail
   go_cut [16, 17] (fun p z wx => Hid (PgRel (TgOf ax M F) w H u p z wx))
   case first =>
    go_wp2_with fail
    refine (pop_any H (H + 1) v qs w5 (unhide HPR).at_ (unhide HPR).hp).mono ?_
    rintro e w6 hr6
    have hHw6 : H < w5.heap.size := (unhide HPR).at_.box.1
    rcases hr6 with ⟨hnil, rfl, hb6⟩ | ⟨hpos, x, a', c', hq0, rfl, hPO⟩
    ·dsimp only
     have hbB : Below w6.heap.size w6 (w6.alloc (.cells #[.int .i64 0, .int .i64 0, .slice none 0 0] 133)) := bw0
     have HST : Hid (PgRel (TgOf ax M F) w H u (.pointer (some ⟨w6.heap.size, 0, none⟩)) (.bool false) (w6.alloc (.cells #[.int .i64 0, .int .i64 0, .slice none 0 0] 133))) := Or.inr ⟨[], rfl, ((unhide HPR).row.below hb6).below hbB, by have := (unhide HPR).merge; rw [hnil] at this; exact this, ((unhide HPR).bel.trans (hb6.mono (unhide HPR).bel.size)).trans (hbB.mono (by have := (unhide HPR).bel.size; have := hb6.size; omega))⟩
     clear hbB hb6 hnil
     go_wp2_with fail
     go_meet
     exact HST
    ·dsimp only
     obtain ⟨v1, ps1, r1, r2, r3, r4, r5, r6, r7, r8, r9, r10, r11⟩ := (unhide HPR).pop hHw.1 hq0 hPO
     have hbB : Below w6.heap.size w6 (w6.alloc (.cells #[.int .i64 x.axle, .int .i64 x.back, .slice a' x.ms.length c'] 133)) := bw0
     have HST : Hid (PgRel (TgOf ax M F) w H u (.pointer (some ⟨w6.heap.size, 0, none⟩)) (.bool true) (w6.alloc (.cells #[.int .i64 x.axle, .int .i64 x.back, .slice a' x.ms.length c'] 133))) := Or.inl ⟨w6.heap.size, ps1, v1, [], x, a', c', rfl, rfl, Cur.of_pop r1 r3 r4 r5 r6 r7 r8 r9 r10 r11 (only_of_below hbB) (by have := r2.size; omega) hHw.1 (fun e => by have := (r4.lt _ e).2; omega) (fun e => by have := (r1.row.lt _ e).2; omega) (boxed_alloc _ _ _)⟩
     clear r1 r2 r3 r4 r5 r6 r7 r8 r9 r10 r11 hbB hPO
     go_wp2_with fail
     go_meet
     exact HST
   case rest =>
    have HST := hcut
    clear hcut HPR
    go_wp2_with fail
    go_loopw [15, 16, 17] (fun y p z wr => PgRel (TgOf ax M F) w H y p z wr) (fun y _ _ _ => 10001000001 - slLen y)
    case atStart => exact unhide HST
    case round =>
     clear HST
     rename World => wq
     rcases hrel with ⟨B, ps, vv, L, x, a2, cx, rfl, rfl, hC⟩ | ⟨L, rfl, hrw, hmg, hbl⟩
     ·have HC := hide hC
      obtain ⟨ao, co', eo, hco, hmk, hlo⟩ := hC.msin
      simp only [Value.slice.injEq, true_and] at eo
      obtain ⟨rfl, rfl⟩ := eo
      have hne := hC.fit.2.2.1
      obtain ⟨mb, off, hae, hmbl, hcc⟩ := hmk 0 (List.length_pos_iff.2 hne)
      subst hae
      have hmH := hlo mb off rfl
      have hLT : ∀ t ∈ L, TgOf ax M F t := fun t ht => (hC.merge.all t).2 (Or.inl ht)
      have hLl := tg_len hF hax (unhide HPO) hC.merge.sorted hLT
      have HMK := hide hmk
      have hBl := hC.box.1
      have hHB := hC.hB
      have hxl := hC.xl
      have hHq : H < wq.heap.size := hC.at_.box.1
      obtain ⟨ya, yc, hye, _, _⟩ := hC.row.shape paF_len
      rw [List.length_map] at hye
      subst hye
      clear hC hmk hlo hLT hcc hne
      go_wp2_with fail
      refine (wpass_any B (H + 1) _ x mb off cx (L.map Tg.un) wq (unhide HC).box (unhide HC).row (unhide HMK) (unhide HC).fit (by omega) (unhide HC).own.1 (fun e => by have := ((unhide HC).row.lt mb e).1; omega) (by omega) hco (by rw [List.length_map]; omega) hxl).mono ?_
      rintro e w7 ⟨u', rfl, hPS⟩
      have hgl : (grpW x).length ≤ x.ms.length := by have := congrArg List.length (grp_rst x); rw [List.length_append] at this; omega
      have hrl : (rstW x).length = x.ms.length - (grpW x).length := by have := congrArg List.length (grp_rst x); rw [List.length_append] at this; omega
      have htk : x.ms.take (grpW x).length = grpW x := by
       have := grp_rst x
       conv => lhs; rw [← this]
       exact List.take_left
      have hdr : x.ms.drop (grpW x).length = rstW x := by
       have := grp_rst x
       conv => lhs; rw [← this]
       exact List.drop_left
      have hg1 : 0 < (grpW x).length := by
       have hne := (unhide HC).fit.2.2.1
       obtain ⟨xa, xb, xm⟩ := x
       cases xm with
       | nil => exact absurd rfl hne
       | cons m r => simp [grpW]
      obtain ⟨o, co, hbx, hoj, hcj⟩ := hPS.box
      have hrow7 : PaRow w7 (H + 1) u' ((L ++ (grpW x).map (tagM x)).map Tg.un) := by
       have := hPS.row
       rw [htk, tg_un x, ← List.map_append] at this
       exact this
      have hA7 := (unhide HC).at_.psg (unhide HC).row hPS.to_ hHB (unhide HC).own.2
      have hb7 := hPS.to_.belB (unhide HC).row (unhide HC).bel hHw.1 hHB
      have hms7 := hPS.ms
      have hown7 := hPS.own
      obtain ⟨ya', yc', hye', _, _⟩ := hrow7.shape paF_len
      rw [List.length_map, List.length_append, List.length_map] at hye'
      have HLN : Hid (10001000001 - slLen u' < 10001000001 - slLen (Value.slice ya L.length yc)) := by
       rw [hye']
       show 10001000001 - (L.length + (grpW x).length) < 10001000001 - L.length
       omega
      have HTU := hide ((unhide HC).merge.turn (w := x) (k := ps.map Prod.fst) List.mem_cons_self (fun q hq => by
        rcases List.mem_cons.1 hq with rfl | hq
        ·exact bef_irr _
        ·obtain ⟨p, hp, rfl⟩ := List.mem_map.1 hq
         exact (unhide HC).min p hp) (fun q => List.mem_cons) (fun i j hi hj hij => (unhide HC).merge.two (i + 1) (j + 1) (by rw [List.length_cons]; omega) (by rw [List.length_cons]; omega) (by omega)) (fun q hq => by
        obtain ⟨p, hp, rfl⟩ := List.getElem_of_mem hq
        have := (unhide HC).merge.two (p + 1) 0 (by rw [List.length_cons]; omega) (by rw [List.length_cons]; omega) (by omega)
        simpa [List.getD_eq_getElem?_getD, List.getElem?_eq_getElem hp] using this))
      have HBX := hide hbx
      have HR7 := hide hrow7
      have HA7 := hide hA7
      have HB7 := hide hb7
      have HM7 := hide hms7
      have HO7 := hide hown7
      have HRL := hide hrl
      have HDR := hide hdr
      have x0 := hbx.2.1 0 _ rfl
      have x1 := hbx.2.1 1 _ rfl
      have x2 := hbx.2.1 2 _ rfl
      have xl := hbx.1
      clear hPS hbx hrow7 hA7 hb7 hms7 hown7 hrl hdr htk hye'
      by_cases hrs : (grpW x).length < x.ms.length
      ·have hrs' : (0 : Int) < ((x.ms.length - (grpW x).length : Nat) : Int) := by omega
       obtain rfl := hoj hrs
       have hfr : WhFit ⟨x.axle, x.back, rstW x⟩ := ⟨(unhide HC).fit.1, (unhide HC).fit.2.1, (fun e => by have := unhide HRL; rw [show rstW x = [] from e] at this; simp at this; omega), fun m hm => (unhide HC).fit.2.2.2 m (by rw [← grp_rst x]; exact List.mem_append_right _ hm)⟩
       have hpu := push_any H (H + 1) vv ps ⟨x.axle, x.back, rstW x⟩ (some ⟨mb, off + (grpW x).length * 3, none⟩) co w7 (unhide HA7) ⟨_, _, rfl, by dsimp only; have := unhide HRL; omega, by have := (unhide HM7).drop (grpW x).length; rw [unhide HDR] at this; exact this, fun b' o' e => by simp at e; omega⟩ hfr (by have := (unhide HC).cnt; omega) (unhide HC).hp
       dsimp only at hpu
       rw [unhide HRL] at hpu
       have HPU := hide hpu
       have hrne : rstW x ≠ [] := hfr.2.2.1
       have HRN := hide hrne
       clear hpu hfr hoj hrne
       go_wp2_with fail
       clear x0 x1 x2 xl
       refine (unhide HPU).mono ?_
       rintro e w8 ⟨rfl, v8, ps8, hP8, hT8, hS8, hQ8⟩
       have HPR8 : Hid (Pre (TgOf ax M F) w H u' v8 ps8 (L ++ (grpW x).map (tagM x)) w8) := by
        have hmem : ∀ q, q ∈ ps8 ↔ q ∈ ps ∨ q = ((⟨x.axle, x.back, rstW x⟩ : Wh), Value.slice (some ⟨mb, off + (grpW x).length * 3, none⟩) (x.ms.length - (grpW x).length) co) := fun q => by rw [hS8.2.1 q, List.mem_append, List.mem_singleton]
        refine ⟨hP8, hQ8, row_hp (unhide HR7) (unhide HA7) hT8, fun q hq => ?_, (unhide HTU).2 (unhide HRN) _ (fun y => ?_) (fun i j hi hj hij => ?_), hT8.bel (unhide HA7) (unhide HB7) hHw.1, by have := hS8.1; rw [List.length_append, List.length_singleton] at this; have := (unhide HC).cnt; omega⟩
        ·rcases (hmem q).1 hq with e | rfl
         ·exact (unhide HC).len q e
         ·dsimp only; have := unhide HRL; omega
        ·rw [List.mem_map, List.mem_map]
         constructor
         ·rintro ⟨q, hq, rfl⟩
          rcases (hmem q).1 hq with e | rfl
          ·exact Or.inl ⟨q, e, rfl⟩
          ·exact Or.inr rfl
         ·rintro (⟨q, hq, rfl⟩ | rfl)
          ·exact ⟨q, (hmem q).2 (Or.inl hq), rfl⟩
          ·exact ⟨_, (hmem _).2 (Or.inr rfl), rfl⟩
        ·rw [List.length_map] at hi hj
         rw [show noWh = Prod.fst noWv from rfl, getD_map, getD_map]
         refine hS8.2.2 (fun i j hi hj hij => ?_) i j hi hj hij
         have hto := (unhide HC).merge.two
         have gs : ∀ k, (x :: ps.map Prod.fst).getD (k + 1) noWh = (ps.getD k noWv).1 := fun k => by
          rw [show (x :: ps.map Prod.fst).getD (k + 1) noWh = (ps.map Prod.fst).getD k noWh from rfl, show noWh = Prod.fst noWv from rfl, getD_map]
         rw [List.length_append, List.length_singleton] at hi hj
         have last : (ps ++ [((⟨x.axle, x.back, rstW x⟩ : Wh), Value.slice (some ⟨mb, off + (grpW x).length * 3, none⟩) (x.ms.length - (grpW x).length) co)]).getD ps.length noWv = ((⟨x.axle, x.back, rstW x⟩ : Wh), Value.slice (some ⟨mb, off + (grpW x).length * 3, none⟩) (x.ms.length - (grpW x).length) co) := by
          rw [List.getD_eq_getElem?_getD, List.getElem?_append_right (Nat.le_refl _)]
          simp
         rcases Nat.lt_or_ge i ps.length with e1 | e1 <;> rcases Nat.lt_or_ge j ps.length with e2 | e2
         ·rw [getD_app e1, getD_app e2]
          have := hto (i + 1) (j + 1) (by rw [List.length_cons, List.length_map]; omega) (by rw [List.length_cons, List.length_map]; omega) (by omega)
          rw [gs, gs] at this
          exact this
         ·obtain rfl : j = ps.length := by omega
          rw [getD_app e1, last]
          have := hto (i + 1) 0 (by rw [List.length_cons, List.length_map]; omega) (by rw [List.length_cons]; omega) (by omega)
          rw [gs] at this
          exact this
         ·obtain rfl : i = ps.length := by omega
          rw [getD_app e2, last]
          have := hto 0 (j + 1) (by rw [List.length_cons]; omega) (by rw [List.length_cons, List.length_map]; omega) (by omega)
          rw [gs] at this
          exact this
         ·omega
       have HBX8 := hide ((unhide HBX).hpTo hT8 (show B ≠ H by omega) (unhide HC).own.2)
       clear hP8 hT8 hS8 hQ8 HPU
       obtain ⟨o, hoe⟩ : ∃ o, off + (grpW x).length * 3 = o := ⟨_, rfl⟩
       rw [hoe] at HBX8
       clear hoe
       have y0 := (unhide HBX8).2.1 0 _ rfl
       have y1 := (unhide HBX8).2.1 1 _ rfl
       have y2 := (unhide HBX8).2.1 2 _ rfl
       have yl := (unhide HBX8).1
       go_wp2_with fail
       clear y0 y1 y2 yl
       have hbN : Below w8.heap.size w8 (w8.alloc (.cells #[.int .i64 x.axle, .int .i64 x.back, .slice (some ⟨mb, o, none⟩) (x.ms.length - (grpW x).length) co] 133)) := bw0
       have hBN : Boxed (w8.alloc (.cells #[.int .i64 x.axle, .int .i64 x.back, .slice (some ⟨mb, o, none⟩) (x.ms.length - (grpW x).length) co] 133)) w8.heap.size [.int .i64 x.axle, .int .i64 x.back, .slice (some ⟨mb, o, none⟩) (x.ms.length - (grpW x).length) co] := boxed_alloc _ _ _
       have HPN := hide ((unhide HPR8).below hbN)
       have hl1 : ∀ k, u'.ownBlock = some k → k < w8.heap.size := fun k hk => ((unhide HPR8).row.lt k hk).2
       have hl2 : ∀ k, v8.ownBlock = some k → k < w8.heap.size := fun k hk => ((unhide HPR8).at_.row.lt k hk).2
       have hHW : H < w8.heap.size := (unhide HPR8).at_.box.1
       obtain ⟨wN, hwN⟩ : ∃ wN, w8.alloc (.cells #[.int .i64 x.axle, .int .i64 x.back, .slice (some ⟨mb, o, none⟩) (x.ms.length - (grpW x).length) co] 133) = wN := ⟨_, rfl⟩
       have hszN : wN.heap.size = w8.heap.size + 1 := by rw [← hwN]; simp
       rw [hwN] at HPN hBN ⊢
       obtain ⟨B2, hB2⟩ : ∃ B2, w8.heap.size = B2 := ⟨_, rfl⟩
       rw [hB2] at hBN hl1 hl2 hHW hszN ⊢
       have HBN := hide hBN
       have HL12 := hide (And.intro hl1 hl2)
       have hszN' : wN.heap.size ≤ B2 + 1 ∧ B2 + 1 ≤ wN.heap.size := by omega
       clear hwN hB2 hbN hBN hszN hl1 hl2
       refine (pop_any H (H + 1) v8 ps8 wN (unhide HPN).at_ (unhide HPN).hp).mono ?_
       rintro e wP hrP
       rcases hrP with ⟨hnil, rfl, hbP⟩ | ⟨hpos, x2, a2, c2, hq2, rfl, hPO⟩
       ·dsimp only
        have hBP := (unhide HBN).below hbP
        have z0 := hBP.2.1 0 _ rfl
        have z1 := hBP.2.1 1 _ rfl
        have z2 := hBP.2.1 2 _ rfl
        have zz := hBP.2.2
        have zl := hBP.1
        have HRW : Hid (PaRow wP (H + 1) u' ((L ++ (grpW x).map (tagM x)).map Tg.un) ∧ Merge (TgOf ax M F) [] (L ++ (grpW x).map (tagM x)) ∧ Below w.heap.size w wP) := ⟨(unhide HPN).row.below hbP, by have := (unhide HPN).merge; rw [hnil] at this; exact this, (unhide HPN).bel.trans (hbP.mono (unhide HPN).bel.size)⟩
        clear hBP hbP hnil
        go_wp2_with fail
        have ho := only_three (w := wP) (g := B2) 0 1 2 (.int .i64 0) (.int .i64 0) (.slice none 0 0)
        refine ⟨?_, ?m⟩
        case m => exact (unhide HLN)
        exact Or.inr ⟨(L ++ (grpW x).map (tagM x)), rfl, (unhide HRW).1.only ho (fun k hk (e : k = B2) => by have := (unhide HL12).1 k hk; omega), (unhide HRW).2.1, (unhide HRW).2.2.trans ⟨ho.os, ho.tape, ho.output, ho.size, fun k hk => ho.block k (Nat.lt_of_lt_of_le hk (unhide HRW).2.2.size) (show ¬ k = B2 by omega)⟩⟩
       ·dsimp only
        obtain ⟨v2, ps2, r1, r2, r3, r4, r5, r6, r7, r8, r9, r10, r11⟩ := (unhide HPN).pop hHw.1 hq2 hPO
        have hBP := (unhide HBN).hpTo r2 (show B2 ≠ H by omega) (fun e => by have := (unhide HL12).2 _ e; omega)
        have z0 := hBP.2.1 0 _ rfl
        have z1 := hBP.2.1 1 _ rfl
        have z2 := hBP.2.1 2 _ rfl
        have zz := hBP.2.2
        have zl := hBP.1
        have HCU : Hid (Cur (TgOf ax M F) w H B2 u' v2 ps2 (L ++ (grpW x).map (tagM x)) x2 a2 c2 (((wP.setCell ⟨B2, 0, none⟩ (.int .i64 x2.axle)).setCell ⟨B2, 1, none⟩ (.int .i64 x2.back)).setCell ⟨B2, 2, none⟩ (.slice a2 x2.ms.length c2))) := Cur.of_pop r1 r3 r4 r5 r6 r7 r8 r9 r10 r11 (only_three 0 1 2 _ _ _) hHW hHw.1 (fun e => by have := (unhide HL12).1 _ e; omega) (fun e => by
         rcases r2.own _ e with e' | e'
         ·have := (unhide HL12).2 _ e'; omega
         ·omega) (by simpa using ((hBP.setAt (i := 0) (by simp) (.int .i64 x2.axle)).setAt (i := 1) (by simp) (.int .i64 x2.back)).setAt (i := 2) (by simp) (.slice a2 x2.ms.length c2))
        clear r1 r2 r3 r4 r5 r6 r7 r8 r9 r10 r11 hBP hPO hq2
        go_wp2_with fail
        exact ⟨Or.inl ⟨B2, ps2, v2, (L ++ (grpW x).map (tagM x)), x2, a2, c2, rfl, rfl, unhide HCU⟩, unhide HLN⟩
      ·have hrs' : ¬ (0 : Int) < ((x.ms.length - (grpW x).length : Nat) : Int) := by omega
       have hrn : rstW x = [] := List.length_eq_zero_iff.1 (by have := unhide HRL; omega)
       have HPR8 : Hid (Pre (TgOf ax M F) w H u' vv ps (L ++ (grpW x).map (tagM x)) w7) := ⟨unhide HA7, (unhide HC).hp, unhide HR7, (unhide HC).len, (unhide HTU).1 hrn, unhide HB7, by have := (unhide HC).cnt; omega⟩
       have HBX8 := HBX
       clear hoj hrn x0 x1 x2 xl
       have y0 := (unhide HBX8).2.1 0 _ rfl
       have y1 := (unhide HBX8).2.1 1 _ rfl
       have y2 := (unhide HBX8).2.1 2 _ rfl
       have yl := (unhide HBX8).1
       go_wp2_with fail
       clear y0 y1 y2 yl
       have hbN : Below w7.heap.size w7 (w7.alloc (.cells #[.int .i64 x.axle, .int .i64 x.back, .slice (some ⟨mb, o, none⟩) (x.ms.length - (grpW x).length) co] 133)) := bw0
       have hBN : Boxed (w7.alloc (.cells #[.int .i64 x.axle, .int .i64 x.back, .slice (some ⟨mb, o, none⟩) (x.ms.length - (grpW x).length) co] 133)) w7.heap.size [.int .i64 x.axle, .int .i64 x.back, .slice (some ⟨mb, o, none⟩) (x.ms.length - (grpW x).length) co] := boxed_alloc _ _ _
       have HPN := hide ((unhide HPR8).below hbN)
       have hl1 : ∀ k, u'.ownBlock = some k → k < w7.heap.size := fun k hk => ((unhide HPR8).row.lt k hk).2
       have hl2 : ∀ k, vv.ownBlock = some k → k < w7.heap.size := fun k hk => ((unhide HPR8).at_.row.lt k hk).2
       have hHW : H < w7.heap.size := (unhide HPR8).at_.box.1
       obtain ⟨wN, hwN⟩ : ∃ wN, w7.alloc (.cells #[.int .i64 x.axle, .int .i64 x.back, .slice (some ⟨mb, o, none⟩) (x.ms.length - (grpW x).length) co] 133) = wN := ⟨_, rfl⟩
       have hszN : wN.heap.size = w7.heap.size + 1 := by rw [← hwN]; simp
       rw [hwN] at HPN hBN ⊢
       obtain ⟨B2, hB2⟩ : ∃ B2, w7.heap.size = B2 := ⟨_, rfl⟩
       rw [hB2] at hBN hl1 hl2 hHW hszN ⊢
       have HBN := hide hBN
       have HL12 := hide (And.intro hl1 hl2)
       have hszN' : wN.heap.size ≤ B2 + 1 ∧ B2 + 1 ≤ wN.heap.size := by omega
       clear hwN hB2 hbN hBN hszN hl1 hl2
       refine (pop_any H (H + 1) vv ps wN (unhide HPN).at_ (unhide HPN).hp).mono ?_
       rintro e wP hrP
       rcases hrP with ⟨hnil, rfl, hbP⟩ | ⟨hpos, x2, a2, c2, hq2, rfl, hPO⟩
       ·dsimp only
        have hBP := (unhide HBN).below hbP
        have z0 := hBP.2.1 0 _ rfl
        have z1 := hBP.2.1 1 _ rfl
        have z2 := hBP.2.1 2 _ rfl
        have zz := hBP.2.2
        have zl := hBP.1
        have HRW : Hid (PaRow wP (H + 1) u' ((L ++ (grpW x).map (tagM x)).map Tg.un) ∧ Merge (TgOf ax M F) [] (L ++ (grpW x).map (tagM x)) ∧ Below w.heap.size w wP) := ⟨(unhide HPN).row.below hbP, by have := (unhide HPN).merge; rw [hnil] at this; exact this, (unhide HPN).bel.trans (hbP.mono (unhide HPN).bel.size)⟩
        clear hBP hbP hnil
        go_wp2_with fail
        have ho := only_three (w := wP) (g := B2) 0 1 2 (.int .i64 0) (.int .i64 0) (.slice none 0 0)
        refine ⟨?_, ?m⟩
        case m => exact (unhide HLN)
        exact Or.inr ⟨(L ++ (grpW x).map (tagM x)), rfl, (unhide HRW).1.only ho (fun k hk (e : k = B2) => by have := (unhide HL12).1 k hk; omega), (unhide HRW).2.1, (unhide HRW).2.2.trans ⟨ho.os, ho.tape, ho.output, ho.size, fun k hk => ho.block k (Nat.lt_of_lt_of_le hk (unhide HRW).2.2.size) (show ¬ k = B2 by omega)⟩⟩
       ·dsimp only
        obtain ⟨v2, ps2, r1, r2, r3, r4, r5, r6, r7, r8, r9, r10, r11⟩ := (unhide HPN).pop hHw.1 hq2 hPO
        have hBP := (unhide HBN).hpTo r2 (show B2 ≠ H by omega) (fun e => by have := (unhide HL12).2 _ e; omega)
        have z0 := hBP.2.1 0 _ rfl
        have z1 := hBP.2.1 1 _ rfl
        have z2 := hBP.2.1 2 _ rfl
        have zz := hBP.2.2
        have zl := hBP.1
        have HCU : Hid (Cur (TgOf ax M F) w H B2 u' v2 ps2 (L ++ (grpW x).map (tagM x)) x2 a2 c2 (((wP.setCell ⟨B2, 0, none⟩ (.int .i64 x2.axle)).setCell ⟨B2, 1, none⟩ (.int .i64 x2.back)).setCell ⟨B2, 2, none⟩ (.slice a2 x2.ms.length c2))) := Cur.of_pop r1 r3 r4 r5 r6 r7 r8 r9 r10 r11 (only_three 0 1 2 _ _ _) hHW hHw.1 (fun e => by have := (unhide HL12).1 _ e; omega) (fun e => by
         rcases r2.own _ e with e' | e'
         ·have := (unhide HL12).2 _ e'; omega
         ·omega) (by simpa using ((hBP.setAt (i := 0) (by simp) (.int .i64 x2.axle)).setAt (i := 1) (by simp) (.int .i64 x2.back)).setAt (i := 2) (by simp) (.slice a2 x2.ms.length c2))
        clear r1 r2 r3 r4 r5 r6 r7 r8 r9 r10 r11 hBP hPO hq2
        go_wp2_with fail
        exact ⟨Or.inl ⟨B2, ps2, v2, (L ++ (grpW x).map (tagM x)), x2, a2, c2, rfl, rfl, unhide HCU⟩, unhide HLN⟩
     ·have HRW := hide hrw
      have HMG := hide hmg
      clear hrw hmg
      go_wp2_with fail
      go_ret
      exact ⟨_, L, rfl, (unhide HRW).mono (by omega), (unhide HMG).sorted, fun t => by rw [(unhide HMG).all t]; simp, hbl⟩

end Go.Proofs.YtjacbppeebnjfaaGreat

