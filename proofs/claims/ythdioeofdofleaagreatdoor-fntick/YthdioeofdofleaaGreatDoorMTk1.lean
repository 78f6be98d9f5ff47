import Derived.Test.YthdioeofdofleaaGreatDoorMKw5
import Derived.Lib.SliceRun
import Derived.Test.YthdioeofdofleaaGreatDoorMPlain2
import Derived.Test.YthdioeofdofleaaGreatDoorMEa
set_option linter.unusedSimpArgs false
set_option maxRecDepth 100000
namespace Go.Proofs.YthdioeofdofleaaGreatDoor
open Go.RowKit
variable {w w' : World} {base g M Mp N C : Nat} {bs ps : List Nat} {ls : Int -> List Nat} {av : Nat -> Prop}
set_option maxHeartbeats 2000000 in
theorem isIt_any (q M C : Nat) (w : World) (hc : w.cell? ⟨C, 0, none⟩ = some (.pointer (some ⟨M, 0, none⟩))) (hq : Zh w q) (hM : Zh w M) :
  Calls Tryz.prog 92 #[.pointer (some ⟨q, 0, none⟩), .pointer (some ⟨C, 0, none⟩)] w fun e w' => e = .returned (.bool (decide (q = M))) /\ w' = w := by
 by_cases h : q = M
 ·subst h;have he := Ud w q;go_enter Tryz.func92, Tryz.ntmps92;go_wp2;go_ret
  simp
 ·have he := VV w h hq hM;go_enter Tryz.func92, Tryz.ntmps92;go_wp2;go_ret
  simp [h]

set_option maxHeartbeats 2000000 in
theorem dIndex_any (a : Option Addr) (cap : Nat) (ps : List Nat) (M C : Nat) (w : World) (h : XP w a ps) (hl : ps.length <= 1000000) (hc : w.cell? ⟨C, 0, none⟩ = some (.pointer (some ⟨M, 0, none⟩))) (hM : Zh w M) (hps : ∀ q ∈ ps, Zh w q) :
  Calls Tryz.prog 122 #[.slice a ps.length cap, .func (.func 92) #[] #[.pointer (some ⟨C, 0, none⟩)]] w fun e w' => ((∃ (k : Nat) (hk : k < ps.length), e = .returned (.int .i64 k) /\ ps[k] = M /\ ∀ j (hj : j < ps.length), j < k -> ps[j] ≠ M) \/ (e = .returned (.int .i64 (-1)) /\ M ∉ ps)) /\ w' = w := by
 have HPS := zd hps;clear hps
 have hcf : ∀ (x : Value) (W : World), (callFunc 92 #[x, .pointer (some ⟨C, 0, none⟩)]).run Tryz.prog W = .ok (.enter 92 #[x, .pointer (some ⟨C, 0, none⟩)]) W := fun _ _ => by kernel_rfl
 go_enter Tryz.func122, Tryz.ntmps122;go_wp2_with fail
 go_loopw [8] (fun z wr => ∃ k : Nat, k <= ps.length /\ z = .int .i64 k /\ Hid (∀ j (h : j < ps.length), j < k -> ps[j] ≠ M) /\ wr = w) (fun z _ => ps.length - (intOf z).toNat)
 case atStart => exact ⟨0, Nat.zero_le _, rfl, zd fun j _ hj => by omega, rfl⟩
 case round =>
  obtain ⟨k, hk, rfl, HNO, rfl⟩ := hrel
  by_cases hlt : k < ps.length
  ·obtain ⟨b, off, rfl, hb, c⟩ := h k hlt;have hmem : ps[k] ∈ ps := List.getElem_mem hlt;obtain ⟨q, hq⟩ : ∃ q, ps[k] = q := ⟨_, rfl⟩;rw [hq] at c hmem;have HQ := zd hq;have hqc := za HPS q hmem;clear hq hmem;have HIT := zd (isIt_any q M C _ hc hqc hM);clear hqc;go_wp2_with fail;refine (za HIT).mono ?_;rintro e w1 ⟨rfl, hw⟩;subst hw
   by_cases e : q = M
   ·subst e;rw [show decide (q = q) = true by simp];go_wp2;go_ret;exact ⟨Or.inl ⟨k, hlt, rfl, za HQ, za HNO⟩, rfl⟩
   ·rw [show decide (q = M) = false by simp [e]];have HE := zd e;clear e;go_wp2;refine ⟨⟨k + 1, by omega, by go_num, zd fun j hj hjk => ?_, by first | rfl | trivial⟩, by simp [intOf]; omega⟩
    by_cases e : j = k
    ·subst e;rw [za HQ];exact za HE
    ·exact za HNO j hj (by omega)
  ·have HF : Hid (M ∉ ps) := fun hm => by
    obtain ⟨j, hj, e⟩ := List.getElem_of_mem hm;exact za HNO j hj (by omega) e
   go_wp2;go_ret;exact ⟨Or.inr ⟨rfl, za HF⟩, rfl⟩

theorem YJ {l : List Nat} (h : l.Nodup) {i j : Nat} (hi : i < l.length) (hj : j < l.length) (e : l[i] = l[j]) : i = j := by
 have h' := List.pairwise_iff_getElem.1 h
 rcases Nat.lt_trichotomy i j with h1 | h1 | h1
 ·exact absurd e (h' i j hi hj h1)
 ·exact h1
 ·exact absurd e.symm (h' j i hj hi h1)
def YS (M : Nat) (ps : List Nat) : List Nat := ps.filter fun q => decide (q ≠ M)
def ptrV (b : Nat) : Value := .pointer (some ⟨b, 0, none⟩)
theorem qw (bs : List Nat) : bs.flatMap prF = bs.map ptrV := by
 induction bs with
 | nil => rfl
 | cons x r ih => rw [List.flatMap_cons, ih]; rfl
theorem prRow_own {v : Value} (h : YE w base v bs) (hg : v.ownBlock = some g) :
  ∃ cap cur, v = .slice (some ⟨g, 0, none⟩) bs.length cap /\ base <= g /\ w.heap[g]? = some (.cells cur 77 (0, 0)) /\ bs.length <= cap /\ cap <= maxLen /\ cur.size = cap /\ Zi w g 0 bs.length (fun i => ptrV (bs.getD i 0)) := by
 obtain ⟨hlen, ⟨rfl, _⟩ | ⟨g', cap, cur, rfl, hb, hh, hc1, hc2, hc3, hc4⟩⟩ := h
 ·simp [Value.ownBlock] at hg
 ·simp [Value.ownBlock] at hg
  subst hg;have hlt : g' < w.heap.size := (Array.getElem?_eq_some_iff.1 hh).1;refine ⟨cap, cur, rfl, hb, hh, hc1, hc2, by omega, hlt, fun j hj => ⟨?_, ?_⟩⟩
  ·have h1 : (cur.toList.take (bs.length * 1))[j]? = some (ptrV (bs.getD j 0)) := by
    rw [hc4, qw]
    simp [List.getElem?_eq_getElem hj]
   rw [List.getElem?_take_of_lt (by omega)] at h1;unfold World.cell?;rw [show (⟨g', 0 + j, none⟩ : Addr).block = g' from rfl, hh]
   simpa using h1
  ·unfold World.frozen?;rw [show (⟨g', 0 + j, none⟩ : Addr).block = g' from rfl, hh]
   simp
theorem prRow_of {cap m : Nat} {cur : Array Value} {f : Nat -> Value} (hb : base <= g) (hh : w.heap[g]? = some (.cells cur 77 (0, 0))) (hs : cur.size = cap) (hm : cap <= maxLen) (hn : bs.length <= cap) (ho : Zi w g 0 m f) (hbm : bs.length <= m) (hf : ∀ i (h : i < bs.length), f i = ptrV bs[i]) :
  YE w base (.slice (some ⟨g, 0, none⟩) bs.length cap) bs := by
 refine ⟨by rw [qw]; simp, Or.inr ⟨g, cap, cur, rfl, hb, hh, hn, hm, by omega, ?_⟩⟩;rw [qw];apply List.ext_getElem?;intro i
 by_cases hi : i < bs.length
 ·rw [List.getElem?_take_of_lt (by omega)];have h1 := (ho.2 i (by omega)).1;rw [hf i hi] at h1;unfold World.cell? at h1;rw [show (⟨g, 0 + i, none⟩ : Addr).block = g from rfl, hh] at h1;simp only [List.getElem?_map, List.getElem?_eq_getElem hi]
  simpa using h1
 ·rw [List.getElem?_eq_none (by simp; omega), List.getElem?_eq_none (by simp; omega)]

def delF (ps : List Nat) (k j i : Nat) : Value := if i < k then ptrV (ps.getD i 0) else if i + 1 < j then ptrV (ps.getD (i + 1) 0) else ptrV (ps.getD i 0)
theorem zeroMv (w : World) : (zeroValue 77).run Tryz.prog w = .ok (.pointer none) w := by kernel_rfl
theorem filter_out {k : Nat} (hk : k < ps.length) (e : ps[k] = M) (hb : ∀ j (hj : j < ps.length), j < k -> ps[j] ≠ M) (hnd : ps.Nodup) :
  YS M ps = ps.take k ++ ps.drop (k + 1) := by
 unfold YS
 have hs : ps = ps.take k ++ (ps[k] :: ps.drop (k + 1)) := by rw [List.getElem_cons_drop]; exact (List.take_append_drop k ps).symm
 have h1 : ∀ q ∈ ps.take k, q ≠ M := by
  intro q hq;obtain ⟨j, hj, rfl⟩ := List.getElem_of_mem hq;rw [List.length_take] at hj;rw [List.getElem_take];exact hb j (by omega) (by omega)
 have h2 : ∀ q ∈ ps.drop (k + 1), q ≠ M := by
  intro q hq hqM;obtain ⟨j, hj, rfl⟩ := List.getElem_of_mem hq;rw [List.length_drop] at hj;rw [List.getElem_drop] at hqM;have := YJ hnd (by omega) hk (hqM.trans e.symm);omega
 conv => lhs; rw [hs]
 rw [List.filter_append, List.filter_cons, e];simp only [ne_eq, not_true_eq_false, decide_false, Bool.false_eq_true, if_false];rw [List.filter_eq_self.2 (fun q hq => by simpa using h1 q hq), List.filter_eq_self.2 (fun q hq => by simpa using h2 q hq)]
theorem filter_all (h : M ∉ ps) : YS M ps = ps :=
 List.filter_eq_self.2 fun q hq => by
  have : q ≠ M := fun e => h (e ▸ hq)
  simpa using this

set_option maxHeartbeats 4000000 in
theorem dDelete_any (base : Nat) (v : Value) (ps : List Nat) (M C : Nat) (w : World) (h : YE w base v ps) (hl : ps.length <= 1000) (hnd : ps.Nodup) (hc : w.cell? ⟨C, 0, none⟩ = some (.pointer (some ⟨M, 0, none⟩))) (hC : C < w.heap.size) (hCv : v.ownBlock ≠ some C) (hM : Zh w M) (hps : ∀ q ∈ ps, Zh w q) :
  Calls Tryz.prog 93 #[v, .func (.func 92) #[] #[.pointer (some ⟨C, 0, none⟩)]] w fun e w' => ∃ v', e = .returned v' /\ YE w' base v' (YS M ps) /\ v'.ownBlock = v.ownBlock /\ zP (fun k => v.ownBlock = some k) w w' := by
 have hcf : ∀ (x : Value) (W : World), (callFunc 92 #[x, .pointer (some ⟨C, 0, none⟩)]).run Tryz.prog W = .ok (.enter 92 #[x, .pointer (some ⟨C, 0, none⟩)]) W := fun _ _ => by kernel_rfl
 obtain ⟨a, cap, rfl, hcap, hp⟩ := xF h;have HROW := zd h;have HPS := zd hps;have HCV := zd hCv;have HND := zd hnd;have HP := zd hp;clear h hps hCv hp hnd;go_enter Tryz.func93, Tryz.ntmps93;go_wp2_with fail;refine (dIndex_any a cap ps M C _ (za HP) (by omega) hc hM (za HPS)).mono ?_;rintro e w1 ⟨⟨k, hk, rfl, hkM, hno⟩ | ⟨rfl, hno⟩, hw⟩
 ·subst hw;obtain ⟨g, off, rfl, _, _⟩ := za HP k hk;obtain ⟨cap', cur, hv, hbg, hh, hc1, hc2, hc3, hown⟩ := prRow_own (za HROW) (g := g) rfl;simp only [Value.slice.injEq, Option.some.injEq, Addr.mk.injEq, and_true, true_and] at hv;obtain ⟨rfl, rfl⟩ := hv;have hFO := filter_out hk hkM hno (za HND);have HFO := zd hFO;have HH := zd hh;have HOWN := zd hown;have HC3 := zd hc3;have HKM := zd hkM;have HNO := zd hno;clear hFO hh hown hc3 hkM hno;have hgl : g < w1.heap.size := (za HOWN).1
  have hkw : ((k : Int) == -1) = false := by rw [beq_eq_false_iff_ne]; omega
  have hk1 : IntKind.i64.wrap ((k : Int) + 1) = ((k + 1 : Nat) : Int) := (zj (by omega) (by omega)).trans (by omega);go_wp2_with fail
  go_loopw [5, 6] (fun x5 x6 wr => ∃ i : Nat, (k <= i /\ i < ps.length) /\ x5 = .int .i64 i /\ x6 = .int .i64 ((i + 1 : Nat) : Int) /\ Hid (Zi wr g 0 ps.length (delF ps k (i + 1))) /\ Hid (zP (fun q => q = g) w1 wr)) (fun _ x6 _ => ps.length - (intOf x6).toNat)
  case atStart =>
   refine ⟨k, ⟨Nat.le_refl _, hk⟩, rfl, by first | rfl | simp, zd ((za HOWN).congr fun i hi => ?_), zd (Xx _ _)⟩;unfold delF
   split
   ·rfl
   ·rw [if_neg (by omega)]
  case round =>
   obtain ⟨i, hi, rfl, rfl, HO, HONLY⟩ := hrel
   have hgC : C ≠ g := fun e => za HCV (by rw [e]; rfl)
   have hcr : wr.cell? ⟨C, 0, none⟩ = some (.pointer (some ⟨M, 0, none⟩)) := (World.cell?_of_block (w := w1) (a := ⟨C, 0, none⟩) ((za HONLY).block C hC hgC)).trans hc;have hszr := (za HONLY).size
   by_cases hlt : i + 1 < ps.length
   ·have hlt' : (((i + 1 : Nat) : Int)) < (ps.length : Int) := by omega
    have hmem : ps[i + 1] ∈ ps := List.getElem_mem hlt
    have hne : ps[i + 1] ≠ M := fun e => by
     have := YJ (za HND) hlt hk (e.trans (za HKM).symm);omega
    have hgd : ps.getD (i + 1) 0 = ps[i + 1] := by simp [List.getElem?_eq_getElem hlt]
    have cj := ((za HO).2 (i + 1) hlt).1;have ci := ((za HO).2 i hi.2).1;have cz := ((za HO).2 i hi.2).2;rw [Nat.zero_add] at cj ci cz;rw [show delF ps k (i + 1) (i + 1) = .pointer (some ⟨ps[i + 1], 0, none⟩) by unfold delF; rw [if_neg (by omega), if_neg (by omega), hgd]; rfl] at cj;obtain ⟨c0, hc0⟩ : ∃ c0, delF ps k (i + 1) i = c0 := ⟨_, rfl⟩;rw [hc0] at ci;have HOS := zd ((za HO).set0 (i := i) hi.2 (ptrV ps[i + 1]));have HQC := zd ((za HPS _ hmem).only (za HONLY));obtain ⟨q, hq⟩ : ∃ q, ps[i + 1] = q := ⟨_, rfl⟩;rw [hq] at cj hne HOS HQC hgd;have HGD := zd hgd;have HIT := zd (isIt_any q M C wr hcr (za HQC) (hM.only (za HONLY)));rw [show decide (q = M) = false by simp [hne]] at HIT;have hi1 : IntKind.i64.wrap ((i : Int) + 1) = ((i + 1 : Nat) : Int) := (zj (by omega) (by omega)).trans (by omega);have hi2 : IntKind.i64.wrap (((i + 1 : Nat) : Int) + 1) = ((i + 1 + 1 : Nat) : Int) := (zj (by omega) (by omega)).trans (by omega)
    have hil : (i : Int) < (ps.length : Int) := by omega
    have hglr : g < wr.heap.size := by omega
    clear hmem hne hgd hq hc0 HQC;go_wp2_with fail;refine (za HIT).mono ?_;rintro e w2 ⟨rfl, hw⟩;subst hw;go_wp2_with fail;refine ⟨⟨i + 1, ⟨by omega, by omega⟩, rfl, rfl, zd ((za HOS).congr fun j hj => ?_), zd ((za HONLY).trans (ze (S := fun q => q = g) _ (p := ⟨g, i, none⟩) rfl _))⟩, by simp [intOf]; omega⟩;unfold delF
    by_cases e : j = i
    ·subst e;rw [if_pos rfl, if_neg (by omega), if_pos (by omega), za HGD]
    ·rw [if_neg e]
     by_cases e1 : j < k
     ·rw [if_pos e1, if_pos e1]
     ·rw [if_neg e1, if_neg e1]
      by_cases e2 : j + 1 < i + 1
      ·rw [if_pos e2, if_pos (by omega)]
      ·rw [if_neg e2, if_neg (by omega)]
   ·have hlt' : ¬ (((i + 1 : Nat) : Int)) < (ps.length : Int) := by omega
    have hni : ps.length - i = 1 := by omega
    have ci := ((za HO).2 i hi.2).1;have cz := ((za HO).2 i hi.2).2;rw [Nat.zero_add] at ci cz
    have hA1 : ∀ j, j < 1 -> (wr.cell? ⟨g, i + j, none⟩).isSome = true := fun j hj => by
     obtain rfl : j = 0 := by omega
     rw [Nat.add_zero, ci];rfl
    have hA2 : ∀ j, j < 1 -> wr.frozen? ⟨g, i + j, none⟩ = false := fun j hj => by
     obtain rfl : j = 0 := by omega
     rw [Nat.add_zero];exact cz
    have hcl : ∀ ty, (Builtin.clear_ #[ 71 ] ty #[.slice (some ⟨g, i, none⟩) 1 (cap - i)]).run Tryz.prog wr = .ok (.tuple #[]) (wr.setCell ⟨g, i, none⟩ (.pointer none)) :=
     fun ty => Lib.run_clear_slice wr 71 77 ty (.pointer none) Tryz.underlying71 zeroMv rfl rfl g i 1 (cap - i) (by omega) hA1 hA2
    clear hA1 hA2;have HO2 := zd ((za HO).set0 (i := i) hi.2 (.pointer none));have HN2 := zd ((za HONLY).trans (ze (S := fun q => q = g) _ (p := ⟨g, i, none⟩) rfl (.pointer none)))
    have hil : (i : Int) < (ps.length : Int) := by omega
    have hil2 : (i : Int) <= (ps.length : Int) := by omega
    have hil3 : (i : Int) <= (cap : Int) := by omega
    go_wp2_with (simp only [hcl])
    go_ret;obtain ⟨cur', hh', hs'⟩ := (za HN2).shape g cur _ _ (za HH)
    have hlen : (ps.take k ++ ps.drop (k + 1)).length = i := by simp; omega
    refine ⟨.slice (some ⟨g, 0, none⟩) i cap, by first | rfl | simp, ?_, rfl, ⟨(za HN2).os, (za HN2).tape, (za HN2).output, (za HN2).size, fun q hq hs => (za HN2).block q hq (fun e => hs (by rw [e]; rfl)), (za HN2).shape⟩⟩;rw [za HFO]
    have hrow := prRow_of (bs := ps.take k ++ ps.drop (k + 1)) hbg hh' (hs'.trans (za HC3)) hc2 (by omega) (za HO2) (by omega) (fun j hj => by
     rw [hlen] at hj;rw [if_neg (by omega)];unfold delF
     by_cases e : j < k
     ·rw [if_pos e, List.getElem_append_left (by simp; omega), List.getElem_take]
      congr 1
      simp [List.getElem?_eq_getElem (show j < ps.length by omega)]
     ·rw [if_neg e, if_pos (by omega), List.getElem_append_right (by simp; omega), List.getElem_drop]
      congr 1
      simp [List.getElem?_eq_getElem (show j + 1 < ps.length by omega)]
      congr 1
      omega)
    rw [hlen] at hrow;exact hrow
 ·subst hw;go_wp2_with fail;go_ret;exact ⟨_, rfl, by rw [filter_all hno]; exact za HROW, rfl, Xx _ _⟩

def yh (ls : Int -> List Nat) (M : Nat) (xs : List Pt) : Int -> List Nat := fun p => if (xs.any fun x => decide (x.piece = p)) = true then YS M (ls p) else ls p
theorem lifted_nil (ls : Int -> List Nat) (M : Nat) : yh ls M [] = ls := by funext p; simp [yh]
theorem lifted_snoc (ls : Int -> List Nat) (M : Nat) (xs : List Pt) (x : Pt) : yh ls M (xs ++ [x]) = fun q => if q = x.piece then YS M (yh ls M xs x.piece) else yh ls M xs q := by
 funext q
 unfold yh
 by_cases e : q = x.piece
 ·subst e;rw [if_pos (by simp), if_pos rfl]
  split
  ·unfold YS;rw [List.filter_filter]
   congr 1
   funext y
   simp
  ·rfl
 ·rw [if_neg e]
  have : ((xs ++ [x]).any fun y => decide (y.piece = q)) = (xs.any fun y => decide (y.piece = q)) := by
   rw [List.any_append]
   simp [show ¬ x.piece = q from fun h => e h.symm]
  rw [this]
theorem Yt (ls : Int -> List Nat) (M : Nat) (xs : List Pt) (p : Int) : (yh ls M xs p).Sublist (ls p) := by
 unfold yh
 split
 ·unfold YS;exact List.filter_sublist
 ·exact List.Sublist.refl _

def LyC (w : World) (base Mp N : Nat) (ls : Int -> List Nat) (av : Nat -> Prop) (C : Nat) : Prop :=
 ∃ f, yU w Mp N f /\ (∀ p, YE w base (f p) (ls p)) /\ (∀ p q, p ≠ q -> (f p).ownBlock = none \/ (f p).ownBlock ≠ (f q).ownBlock) /\ (∀ p k, (f p).ownBlock = some k -> ¬ av k) /\ ∀ p k, (f p).ownBlock = some k -> k < C
theorem LyC.lying (h : LyC w base Mp N ls av C) : zZ w base Mp N ls av := by
 obtain ⟨f, h1, h2, h3, h4, _⟩ := h;exact ⟨f, h1, h2, h3, h4⟩
theorem LyC.of (h : zZ w base Mp N ls av) (hb : Below w.heap.size w w') : LyC w' base Mp N ls av w.heap.size := by
 obtain ⟨f, h1, h2, h3, h4⟩ := h;exact ⟨f, h1.below hb, fun p => (h2 p).below hb, h3, h4, fun p k hk => ((h2 p).lt k hk).2⟩

theorem lyc_lift {wr W' wa wm : World} {f : Int -> Value} {Xp : Int} {v' : Value} {qs : List Nat} 
  (hMp : yU wr Mp N f) (hrows : ∀ p, YE wr base (f p) (ls p)) (hdis : ∀ p q, p ≠ q -> (f p).ownBlock = none \/ (f p).ownBlock ≠ (f q).ownBlock) (havd : ∀ p k, (f p).ownBlock = some k -> ¬ av k) (hfC : ∀ p k, (f p).ownBlock = some k -> k < C)
  (hb : Below wr.heap.size wr W') (hown : YE wa base v' qs) (hvo : v'.ownBlock = (f Xp).ownBlock) (ho : zP (fun k => (f Xp).ownBlock = some k) W' wa) (hm3 : yU wm Mp (N + 1) (fun q => if q = Xp then v' else f q)) (hg3 : wa.grownBy wm (some Mp)) :
  LyC wm base Mp (N + 1) (fun q => if q = Xp then qs else ls q) av C := by
 have hsz := hb.size;have hosz := ho.size
 have hnM : ∀ p k, (f p).ownBlock = some k -> k ≠ Mp := fun p k hk => (zZ.notCells ⟨f, hMp, hrows, hdis, havd⟩ ((hrows p).ty hk).cells)
 refine ⟨_, hm3, fun p => ?_, fun p q hpq => ?_, fun p => ?_, fun p k hk => ?_⟩
 ·by_cases e : p = Xp
  ·simp only [if_pos e]
   exact hown.block fun k hk => hg3.block k (hown.lt k hk).2 (fun e2 => hnM Xp k (by rw [← hvo]; exact hk) (by simpa using e2))
  ·simp only [if_neg e]
   refine (hrows p).block fun k hk => ?_
   have hkl := ((hrows p).lt k hk).2;rw [hg3.block k (by omega) (fun e2 => hnM p k hk (by simpa using e2))];rw [ho.block k (by omega) (fun e2 => ?_)]
   ·exact hb.block k hkl
   ·rcases hdis p Xp e with h | h
    ·rw [hk] at h; simp at h
    ·exact h (by rw [hk]; exact e2.symm)
 ·by_cases e : p = Xp
  ·have e2 : ¬ q = Xp := fun h => hpq (e.trans h.symm)
   simp only [if_pos e, if_neg e2];rw [hvo];exact hdis Xp q (fun h => e2 h.symm)
  ·simp only [if_neg e]
   by_cases e2 : q = Xp
   ·simp only [if_pos e2];rw [hvo];exact hdis p Xp e
   ·simp only [if_neg e2];exact hdis p q hpq
 ·by_cases e : p = Xp
  ·simp only [if_pos e];rw [hvo];exact havd Xp
  ·simp only [if_neg e];exact havd p
 ·by_cases e : p = Xp
  ·simp only [if_pos e] at hk;rw [hvo] at hk;exact hfC Xp k hk
  ·simp only [if_neg e] at hk;exact hfC p k hk

theorem zO {vs : List Value} (h : zg w N vs) (hb : w'.heap[N]? = w.heap[N]?) (hs : w.heap.size <= w'.heap.size) : zg w' N vs :=
 ⟨Nat.lt_of_lt_of_le h.1 hs, fun i v hi => by rw [World.cell?_of_block (w := w) (a := ⟨N, i, none⟩) hb]; exact h.2.1 i v hi, fun i => by rw [World.frozen?_of_block (w := w) (a := ⟨N, i, none⟩) hb]; exact h.2.2 i⟩
theorem ZR.only {S R : Nat -> Prop} {a b : World} (h : ZR S w a) (ho : zP R a b) (hr : ∀ k, k < w.heap.size -> R k -> S k) : ZR S w b :=
 ⟨ho.os.trans h.os, ho.tape.trans h.tape, ho.output.trans h.output, Nat.le_trans h.size ho.size, fun k hk hs => (ho.block k (Nat.lt_of_lt_of_le hk h.size) (fun x => hs (hr k hk x))).trans (h.block k hk hs)⟩

set_option maxHeartbeats 4000000 in
theorem wlift_any (W M Mp N base : Nat) (av : Nat -> Prop) (ls : Int -> List Nat) (pa : Option Addr) (pcap : Nat) (xs : List Pt) (w : World) {base2 : Nat} 
  (hW : zx w W 74) (hcW : w.cell? ⟨W, 4, none⟩ = some (.map (some Mp))) (hM : zx w M 95) (hcM : w.cell? ⟨M, 413, none⟩ = some (.slice pa xs.length pcap)) (hpt : ZM w base2 (.slice pa xs.length pcap) xs)
  (hL : zZ w base Mp N ls av) (hls : ∀ p, (ls p).length <= 1000) (hnd : ∀ p, (ls p).Nodup) (hlm : ∀ p, ∀ q ∈ ls p, zx w q 95) (hpcs : ∀ x ∈ xs, 0 <= x.piece /\ x.piece < 1000000) (hxl : xs.length <= 1000) (hN : N <= 1000000) :
  Calls Tryz.prog 58 #[.pointer (some ⟨W, 0, none⟩), .pointer (some ⟨M, 0, none⟩)] w fun e w' =>
   (∃ v, e = .returned v) /\ zZ w' base Mp (N + 1000) (yh ls M xs) av /\ ZR (fun k => k = Mp \/ (base <= k /\ ¬ av k /\ zx w k 77)) w w' := by
 have hWl := hW.lt;have hMl := hM.lt
 have nW : ¬ W = w.heap.size := by omega
 have nM : ¬ M = w.heap.size := by omega
 have HL0 := zd hL;have HPT := zd hpt;have HLS := zd hls;have HND := zd hnd;have HLM := zd hlm;have HPC := zd hpcs;clear hL hpt hls hnd hlm hpcs;go_enter Tryz.func58, Tryz.ntmps58;go_wp2_with fail;obtain ⟨w2, hw2⟩ : ∃ w2, w.alloc (.cells #[.pointer (some ⟨M, 0, none⟩)] 77) = w2 := ⟨_, rfl⟩;obtain ⟨C, hCe⟩ : ∃ C, w.heap.size = C := ⟨_, rfl⟩
 have hb2 : Below w.heap.size w w2 := by rw [← hw2]; exact bw0
 have hC2 : zg w2 C [.pointer (some ⟨M, 0, none⟩)] := by rw [← hw2, ← hCe]; exact zf _ _ _
 rw [hw2, hCe];have HCE := zd hCe;have HB2 := zd hb2;have HC2 := zd hC2;clear hw2 hCe hb2 hC2 nW nM
 go_loopw [13] (fun z wr => ∃ i : Nat, i <= xs.length /\ z = .int .i64 i /\ Hid (LyC wr base Mp (N + i) (yh ls M (xs.take i)) av C) /\ Hid (zg wr C [.pointer (some ⟨M, 0, none⟩)]) /\ Hid (ZR (fun k => k = Mp \/ (base <= k /\ ¬ av k /\ zx w k 77)) w wr)) (fun z _ => xs.length - (intOf z).toNat)
 case atStart => exact ⟨0, Nat.zero_le _, rfl, zd (by rw [List.take_zero, lifted_nil, ← za HCE]; exact LyC.of (za HL0) (za HB2)), HC2, zd (ZR.of_below (za HB2))⟩
 case round =>
  obtain ⟨i, hi, rfl, HL, HCB, HT⟩ := hrel;have hT := za HT;have hszr := hT.size
  have hsame : ∀ q T, zx w q T -> T ≠ 77 -> wr.heap[q]? = w.heap[q]? := fun q T hq hne => hT.block q hq.lt (by
   rintro (h | ⟨_, _, h⟩)
   ·exact (za HL0).notCells hq.cells h
   ·exact hne (hq.unique h))
  have d4 : wr.cell? ⟨W, 4, none⟩ = some (.map (some Mp)) := (World.cell?_of_block (w := w) (a := ⟨W, 4, none⟩) (hsame W _ hW (by decide))).trans hcW
  have hWlr : W < wr.heap.size := by omega
  by_cases hlt : i < xs.length
  ·have hx := za HPC xs[i] (List.getElem_mem hlt)
   have hptr : ZM wr base2 (.slice pa xs.length pcap) xs := (za HPT).block fun j hj => hsame j _ ((za HPT).ty hj) (by decide)
   have htk : xs.take (i + 1) = xs.take i ++ [xs[i]] := List.take_succ_eq_append_getElem hlt;have hsn := lifted_snoc ls M (xs.take i) xs[i];rw [← htk] at hsn;obtain ⟨pb, poff, hpa, hpb, c0, c1, c2⟩ := UP hptr i hlt;obtain ⟨⟨Xp, Xf, Xt⟩, hX⟩ : ∃ X, xs[i] = X := ⟨_, rfl⟩;rw [hX] at hx c0 c1 c2 hsn;dsimp only at hx c0 c1 c2 hsn;have hpb2 := hpb.2;subst hpa;clear hX htk;obtain ⟨f, hmap, hrows, hdis, havd, hfC⟩ := za HL;obtain ⟨qs, hqs⟩ : ∃ qs, yh ls M (xs.take i) Xp = qs := ⟨_, rfl⟩;have hsub := Yt ls M (xs.take i) Xp;have hrowX := hrows Xp;obtain ⟨v0, hv0⟩ : ∃ v0, f Xp = v0 := ⟨_, rfl⟩;rw [hqs] at hsub hrowX hsn;rw [hv0] at hrowX;have hql : qs.length <= 1000 := Nat.le_trans hsub.length_le (za HLS Xp);have hqn : qs.Nodup := (za HND Xp).sublist hsub
   have hqc : ∀ q ∈ qs, Zh wr q := fun q hq => ((za HLM Xp q (hsub.subset hq)).same (hsame q _ (za HLM Xp q (hsub.subset hq)) (by decide))).cells
   have hMr : Zh wr M := (hM.same (hsame M _ hM (by decide))).cells;have hwf := Xq (v := Xp) (by omega) (by omega)
   have hCv : v0.ownBlock ≠ some C := fun e => by have := hfC Xp C (by rw [hv0]; exact e); omega
   have hNk : N + i < maxLen := by unfold maxLen; omega
   have nWr : ¬ W = wr.heap.size := by omega
   have npb : ¬ pb = wr.heap.size := by omega
   have HSN := zd hsn;have HROWX := zd hrowX;have HQN := zd hqn;have HQC := zd hqc;have HMR := zd hMr;have HCV := zd hCv;have HV0 := zd hv0;have HMAP := zd hmap;have HROWS := zd hrows;have HDIS := zd hdis;have HAVD := zd havd;have HFC := zd hfC;have HSAME := zd hsame;clear hsn hrowX hqn hqc hMr hCv hv0 hmap hrows hdis havd hfC hsub hqs hsame hptr;go_wp2_with fail;obtain ⟨w3, hw3⟩ : ∃ w3, wr.alloc (.cells #[.int .i64 Xp, .int .i64 Xf, .int .i64 Xt] 103) = w3 := ⟨_, rfl⟩;obtain ⟨P, hPe⟩ : ∃ P, wr.heap.size = P := ⟨_, rfl⟩
   have hb3 : Below wr.heap.size wr w3 := by rw [← hw3]; exact bw0
   have hP3 : zg w3 P [.int .i64 Xp, .int .i64 Xf, .int .i64 Xt] := by rw [← hw3, ← hPe]; exact zf _ _ _
   have hPt : zx w3 P 103 := by rw [← hw3, ← hPe]; exact Zy _ _ _
   rw [hw3, hPe];have x0 := hP3.2.1 0 _ rfl;have xl := hP3.1;have q4 := (hb3.cell (p := ⟨W, 4, none⟩) hWlr).trans d4;have hW3 : W < w3.heap.size := Nat.lt_of_lt_of_le hWlr hb3.size;have hMp3 := ((za HMAP).below hb3).lt
   have hlk0 : ∀ W', Below w3.heap.size w3 W' -> (Instr.lookup 72 (.map (some Mp)) (.int .i64 Xp) false).run Tryz.prog W' = .ok v0 W' := fun W' hW' => by
    rw [← za HV0];exact (((za HMAP).below hb3).below hW').look hwf
   have hlkA := fun (m : Nat) => hlk0 (w3.drewN m) bw0
   have hlkA0 := hlk0 w3.drew bw0;clear hlk0;have hrow3 := (za HROWX).below hb3
   have hMpB : v0.ownBlock ≠ some Mp := fun e => zZ.notCells (LyC.lying (za HL)) ((za HROWX).ty e).cells rfl
   have hWB : v0.ownBlock ≠ some W := fun e => absurd (((za HROWX).ty e).unique (hW.same (za HSAME W _ hW (by decide)))) (by decide)
   have hPB : v0.ownBlock ≠ some P := fun e => absurd ((hrow3.ty e).unique hPt) (by decide)
   have hWMp : some W ≠ some Mp := fun e => (za HL0).notCells hW.cells (by simpa using e)
   have hPMp : some P ≠ some Mp := fun e => zZ.notCells ((LyC.lying (za HL)).below hb3) hPt.cells (by simpa using e)
   have hcc : w3.cell? ⟨C, 0, none⟩ = some (.pointer (some ⟨M, 0, none⟩)) := ((za HCB).below hb3).2.1 0 _ rfl;have HCC := zd hcc;have HC3 := zd ((za HCB).below hb3).1;have HB3 := zd hb3;have HROW3 := zd hrow3;have HMPB := zd hMpB;have HWB := zd hWB;have HPB := zd hPB;have HWMP := zd hWMp;have HPMP := zd hPMp;have HPE := zd hPe;clear hw3 hPe hP3 hPt d4 hb3 hrow3 hMpB hWB hPB hWMp hPMp hcc c0 c1 c2 nWr npb
   go_region_held3 (fun w' => w'.cell? ⟨W, 4, none⟩ = some (.map (some Mp)) /\ w'.cell? ⟨P, 0, none⟩ = some (.int .i64 Xp)) (((try dsimp only); (repeat' apply And.intro)) <;> (go_keep; done))
    (first
     | (go_at_call 93; refine (dDelete_any base v0 qs M C _ ((za HROW3).below ?_) (by omega) (za HQN) ?_ ?_ (za HCV) ?_ ?_).mono ?_; exact bw0; exact ((bw0 : Below w3.heap.size w3 _).cell (p := ⟨C, 0, none⟩) (za HC3)).trans (za HCC); exact Nat.lt_of_lt_of_le (za HC3) (bw0 : Below w3.heap.size w3 _).size; exact ((za HMR).below (za HB3)).below bw0; exact fun q hq => ((za HQC q hq).below (za HB3)).below bw0; rintro e wa ⟨v', rfl, hrow', hvo, hon⟩; have a4 := (World.cell?_of_block (a := ⟨W, 4, none⟩) (hon.block W (Nat.lt_of_lt_of_le hW3 (bw0 : Below w3.heap.size w3 _).size) (za HWB))).trans (((bw0 : Below w3.heap.size w3 _).cell (p := ⟨W, 4, none⟩) hW3).trans q4); have aX := (World.cell?_of_block (a := ⟨P, 0, none⟩) (hon.block P (Nat.lt_of_lt_of_le xl (bw0 : Below w3.heap.size w3 _).size) (za HPB))).trans (((bw0 : Below w3.heap.size w3 _).cell (p := ⟨P, 0, none⟩) xl).trans x0); have hmA := (((za HMAP).below (za HB3)).below bw0).of_block (hon.block Mp (Nat.lt_of_lt_of_le hMp3 (bw0 : Below w3.heap.size w3 _).size) (za HMPB)); obtain ⟨wm, hst, hm3, hg3⟩ := hmA.store hNk hwf v'; have m4 := (Yu hg3 (b := W) (o := 4) (Nat.lt_of_lt_of_le (Nat.lt_of_lt_of_le hW3 (bw0 : Below w3.heap.size w3 _).size) hon.size) (za HWMP)).trans a4; have mX := (Yu hg3 (b := P) (o := 0) (Nat.lt_of_lt_of_le (Nat.lt_of_lt_of_le xl (bw0 : Below w3.heap.size w3 _).size) hon.size) (za HPMP)).trans aX))
   all_goals go_wp2
   refine ⟨⟨i + 1, by omega, by go_num, ?_, ?_, ?_⟩, by simp [intOf]; omega⟩
   ·rw [za HSN];exact zd (lyc_lift (W' := w3.drew) (N := N + i) (Xp := Xp) (za HMAP) (za HROWS) (za HDIS) (za HAVD) (za HFC) (below_then (za HB3) bw0) hrow' (by rw [za HV0]; exact hvo) (by rw [za HV0]; exact hon) hm3 hg3)
   ·have hMl0 := (za HL0).lt;rw [za HCE] at hMl0;have hbx := ((za HCB).below (za HB3)).below (show Below w3.heap.size w3 _ from bw0);exact zd (zO hbx ((hg3.block C (Nat.lt_of_lt_of_le hbx.1 hon.size) (fun e => absurd (show C = Mp by simpa using e) (by omega))).trans (hon.block C hbx.1 (za HCV))) (Nat.le_trans hon.size hg3.size))
   ·exact zd (((hT.then_below (below_then (za HB3) bw0)).only hon (fun k hk hR => UG hT (za HROWX) (by rw [← za HV0]; exact za HAVD Xp) k hR hk)).grown hg3 (fun j hj _ => Or.inl (by simpa using hj.symm)))
  ·have HTK : Hid (xs.take i = xs) := by unfold Hid; rw [show i = xs.length by omega]; simp
   clear d4;go_wp2
   go_end0
   refine ⟨⟨_, rfl⟩, ?_, hT⟩;have h := LyC.lying (za HL);rw [za HTK] at h;obtain ⟨f, h1, h2, h3, h4⟩ := h;exact ⟨f, h1.more (by omega), h2, h3, h4⟩

def SpdOk (zs : List Int) (k : Int) : Prop := (∀ z ∈ zs, 0 <= z /\ z <= 10000) /\ (zs.length : Int) = k

set_option maxHeartbeats 2000000 in
theorem speedsFit_any (a : Option Addr) (cap : Nat) (zs : List Int) (k : Int) (w : World) {L : Nat} (h : zF L w a zs) (hl : zs.length <= 1048576) :
  Calls Tryz.prog 22 #[.slice a zs.length cap, .int .i64 k] w fun e w' => yG (SpdOk zs k) e /\ w' = w := by
 go_enter Tryz.func22, Tryz.ntmps22;go_wp2_with fail
 go_loopw [9] (fun z wr => ∃ i : Nat, i <= zs.length /\ z = .int .i64 i /\ Hid (∀ j (h : j < zs.length), j < i -> 0 <= zs[j] /\ zs[j] <= 10000) /\ wr = w) (fun z _ => zs.length - (intOf z).toNat)
 case atStart => exact ⟨0, Nat.zero_le _, rfl, zd fun j _ hj => by omega, rfl⟩
 case round =>
  obtain ⟨i, hi, rfl, HALL, rfl⟩ := hrel
  by_cases hlt : i < zs.length
  ·obtain ⟨b, off, rfl, hb, c⟩ := h i hlt;have hmem : zs[i] ∈ zs := List.getElem_mem hlt;obtain ⟨x, hx⟩ : ∃ x, zs[i] = x := ⟨_, rfl⟩;rw [hx] at c hmem;have HX := zd hx;have HM := zd hmem;clear hx hmem
   have hlt' : (i : Int) < (zs.length : Int) := by omega
   have hb2 := hb.2;go_wp2_with fail;refine (isFar_any x _).mono ?_;rintro e w1 ⟨⟨rfl, hr⟩ | ⟨rfl, hr⟩, hw⟩
   ·subst hw;have HR := zd hr;clear hr;go_wp2;refine ⟨⟨i + 1, by omega, by go_num, zd fun j hj hji => ?_, by first | rfl | trivial⟩, by simp [intOf]; omega⟩
    by_cases e : j = i
    ·subst e;rw [za HX];exact za HR
    ·exact za HALL j hj (by omega)
   ·subst hw
    have HR : Hid (¬ SpdOk zs k) := fun g => hr (g.1 x (za HM))
    clear hr;go_wp2;go_ret;exact ⟨zk (za HR), rfl⟩
  ·have hlt' : ¬ (i : Int) < (zs.length : Int) := by omega
   have HAL : Hid (∀ z ∈ zs, 0 <= z /\ z <= 10000) := fun z hz => by
    obtain ⟨j, hj, rfl⟩ := List.getElem_of_mem hz;exact za HALL j hj (by omega)
   by_cases hk : (zs.length : Int) = k
   ·subst hk;go_wp2;go_ret;exact ⟨zA ⟨za HAL, rfl⟩, rfl⟩
   ·have hk' : ((zs.length : Int) == k) = false := by rw [beq_eq_false_iff_ne]; exact hk
    go_wp2;go_ret;exact ⟨zk (fun g => hk g.2), rfl⟩
end Go.Proofs.YthdioeofdofleaaGreatDoor
