import Derived.Test.YthdioeofdofleaaGreatDoorMFk1
set_option linter.unusedSimpArgs false
set_option maxRecDepth 100000
namespace Go.Proofs.YthdioeofdofleaaGreatDoor
open Go.RowKit
variable {w w2 w0 w' : World} {X base C R P : Nat} {u v ev v' : Value} {n : Nt} {j : Jt} {bs : List Int} {c : Cu}
theorem yd {W : World} {N : Nat} {vs : List Value} (h : zg W N vs) : ∀ j u, vs[j]? = some u -> W.cell? ((⟨N, 0, none⟩ : Addr).add j) = some u := by
 intro j u hj
 have hadd : (⟨N, 0, none⟩ : Addr).add j = ⟨N, j, none⟩ := by unfold Addr.add; split <;> simp_all
 rw [hadd];exact h.2.1 j u hj
theorem VA (j : Jt) (a : Option Addr) (m c : Nat) : ∀ u ∈ Uq (j, .slice a m c), u.oneCell' = true := by
 intro u hu
 simp [Uq] at hu
 rcases hu with rfl | rfl | rfl <;> rfl
theorem uM (W : World) (base : Nat) (hb : base <= W.heap.size) (es : List Ed) (hl : es.length <= 1000) : yg (W.alloc (.cells (es.flatMap edF).toArray 156)) base (.slice (some ⟨W.heap.size, 0, none⟩) es.length es.length) es := by
 have hfl := XC edF_len es;exact ⟨hfl, Or.inr ⟨W.heap.size, es.length, (es.flatMap edF).toArray, rfl, hb, heap_alloc_new W _, Nat.le_refl _, by unfold maxLen; omega, by simpa using hfl, by rw [List.toList_toArray, ← hfl, List.take_length]⟩⟩
theorem Yw.addJoint {qs : List (Jt × Value)} (h : Yw w X base u v n) (hX : X < base) (hg : w.grownBy w2 v.ownBlock) (hqs : qs.map Prod.fst = n.joints) (hv : Xi w base v qs) (hqe : ∀ q ∈ qs, yg w base q.2 q.1.ends) (hev : yg w base ev j.ends) (hown : Xi w2 base v' (qs ++ [(j, ev)])) :
  Yw (w2.setCell ⟨X, 1, none⟩ v') X base u v' ⟨n.pieces, n.joints ++ [j]⟩ := by
 have hb := h.1.grownE hg (fun hc => by have := (hv.lt _ hc).1; omega);have hp : Vr w2 base u n.pieces := h.2.1.kept hg (fun k hk hc => zV.apart h.2.1 hv (by decide) k hk hc)
 have hed : ∀ {x : Value} {es : List Ed}, yg w base x es -> yg (w2.setCell ⟨X, 1, none⟩ v') base x es := fun hx => (hx.kept hg (fun k hk hc => zV.apart hx hv (by decide) k hk hc)).setCell (p := ⟨X, 1, none⟩) hX v'
 refine ⟨hb.setI (i := 1) (by simp) v', hp.setCell (p := ⟨X, 1, none⟩) hX v', qs ++ [(j, ev)], by simp [hqs], hown.setCell (p := ⟨X, 1, none⟩) hX v', fun q hq => ?_⟩
 rcases List.mem_append.1 hq with hq | hq
 ·exact hed (hqe q hq)
 ·simp at hq
  subst hq;exact hed hev
theorem Yx (bs : List Int) (c : Cu) (n : Nt) : (zI bs c n).2.at_ <= c.at_ + 2 := YY bs c 300
theorem Ys (bs : List Int) (c : Cu) (n : Nt) : (zI bs c n).1.pieces.length = n.pieces.length + 1 := by simp [zI]
def XD (p s : Nat) : Jt := ⟨1, ⟨#[]⟩, [⟨p, s⟩]⟩
def swA (k p a b : Nat) : Jt := ⟨3, ZX (100 + k), [⟨p, 1⟩, ⟨a, 0⟩, ⟨b, 0⟩]⟩
def swB (k q a b : Nat) : Jt := ⟨3, ZX (100 + k), [⟨q, 0⟩, ⟨a, 1⟩, ⟨b, 1⟩]⟩
def XU (bs : List Int) (c : Cu) (n : Nt) : Nt × Cu := zI bs (zI bs (zI bs c n).2 (zI bs c n).1).2 (zI bs (zI bs c n).2 (zI bs c n).1).1
def Zn (bs : List Int) : Nat -> Nat -> Nt -> Cu -> Nat × Nt × Cu
 | 0, p, n, c => (p, n, c)
 | k + 1, p, n, c => Zn bs k (n.pieces.length + 2) ⟨(XU bs c n).1.pieces, (n.joints ++ [swA n.joints.length p n.pieces.length (n.pieces.length + 1)]) ++ [swB (n.joints.length + 1) (n.pieces.length + 2) n.pieces.length (n.pieces.length + 1)]⟩ (XU bs c n).2
def ZI (bs : List Int) (c : Cu) : Nt × Cu := (⟨(zI bs (zn bs c 3).2 ⟨[], []⟩).1.pieces, [XD 0 0]⟩, (zI bs (zn bs c 3).2 ⟨[], []⟩).2)
def yV (bs : List Int) (c : Cu) : Nt × Cu :=
 let r := Zn bs (1 + (zn bs c 3).1).toNat 0 (ZI bs c).1 (ZI bs c).2
 (⟨r.2.1.pieces, r.2.1.joints ++ [XD r.1 1]⟩, r.2.2)
theorem three_at (bs : List Int) (c : Cu) (n : Nt) : (XU bs c n).2.at_ <= c.at_ + 6 := by
 unfold XU;have h1 := Yx bs c n;have h2 := Yx bs (zI bs c n).2 (zI bs c n).1;have h3 := Yx bs (zI bs (zI bs c n).2 (zI bs c n).1).2 (zI bs (zI bs c n).2 (zI bs c n).1).1;omega
theorem stationGo_at (bs : List Int) : ∀ (k p : Nat) (n : Nt) (c : Cu), (Zn bs k p n c).2.2.at_ <= c.at_ + 6 * k := by
 intro k
 induction k with
 | zero => intro p n c; simp [Zn]
 | succ k ih =>
  intro p n c;unfold Zn;have h1 := ih (n.pieces.length + 2) ⟨(XU bs c n).1.pieces, (n.joints ++ [swA n.joints.length p n.pieces.length (n.pieces.length + 1)]) ++ [swB (n.joints.length + 1) (n.pieces.length + 2) n.pieces.length (n.pieces.length + 1)]⟩ (XU bs c n).2;have h2 := three_at bs c n;omega
theorem stationC_at (bs : List Int) (c : Cu) : (yV bs c).2.at_ <= c.at_ + 30 := by
 have h1 := stationGo_at bs (1 + (zn bs c 3).1).toNat 0 (ZI bs c).1 (ZI bs c).2;have h2 := zL bs c 3;have h3 := Zd bs c 3;have h4 := Yx bs (zn bs c 3).2 ⟨[], []⟩;have h5 : (ZI bs c).2 = (zI bs (zn bs c 3).2 ⟨[], []⟩).2 := rfl;rw [h5] at h1
 show (Zn bs (1 + (zn bs c 3).1).toNat 0 (ZI bs c).1 (ZI bs c).2).2.2.at_ <= _
 rw [h5];omega

structure Xe (C R X P base : Nat) (bs : List Int) (w0 : World) (c : Cu) (n : Nt) (w : World) : Prop where
 cur : Za w C bs c
 net : xi w X base n
 pb : zg w P [.pointer (some ⟨C, 0, none⟩)]
 rb : zg w R [.slice none 0 0, .slice none 0 0]
 but : Yi (fun k => k = C \/ k = X) base w0 w
 base_ : base <= w.heap.size
theorem zE.mono {L L' : Nat} (h : zE L w v n) (hL : L' <= L) : zE L' w v n := by
 obtain ⟨a, c, ca, cc, hv, hp, hj⟩ := h;exact ⟨a, c, ca, cc, hv, hp.mono hL, hj.mono hL⟩
theorem but_but {wb wz : World} (hb : Below w.heap.size w wb) (hB : Yi (fun k => k = C \/ k = X) base wb wz) (hX : w.heap.size <= X) (hbase : w.heap.size <= base) : Yi (fun k => k = C) w.heap.size w wz :=
 ⟨hB.os.trans hb.os, hB.tape.trans hb.tape, hB.output.trans hb.output, Nat.le_trans hb.size hB.size, fun k hk hS => (hB.block k (by omega) (fun e => by rcases e with e | e; exact hS e; omega)).trans (hb.block k hk)⟩
theorem Xe.below (h : Xe C R X P base bs w0 c n w) (hb : Below w.heap.size w w') : Xe C R X P base bs w0 c n w' :=
 ⟨h.cur.below hb, h.net.below hb, h.pb.below hb, h.rb.below hb, h.but.trans (ZC hb h.base_), Nat.le_trans h.base_ hb.size⟩
theorem Xe.step {c' : Cu} {n' : Nt} (h : Xe C R X P base bs w0 c n w) (hc : Za w' C bs c') (hn : xi w' X base n') (hb : Yi (fun k => k = C \/ k = X) base w w') (hP : P < base) (hR : R < base) (hPC : P ≠ C /\ P ≠ X) (hRC : R ≠ C /\ R ≠ X) : Xe C R X P base bs w0 c' n' w' :=
 ⟨hc, hn, h.pb.but hb hP (fun e => by rcases e with e | e; exact hPC.1 e; exact hPC.2 e), h.rb.but hb hR (fun e => by rcases e with e | e; exact hRC.1 e; exact hRC.2 e), h.but.trans hb, Nat.le_trans h.base_ hb.size⟩
theorem Xe.joint {wA : World} {qs : List (Jt × Value)} (h : Xe C R X P base bs w0 c n w) (hN : Yw w X base u v n) (hqs : qs.map Prod.fst = n.joints) (hv : Xi w base v qs) (hqe : ∀ q ∈ qs, yg w base q.2 q.1.ends)
  (hb : Below w.heap.size w wA) (hev : yg wA base ev j.ends) (hg : wA.grownBy w2 v.ownBlock) (hown : Xi w2 base v' (qs ++ [(j, ev)])) (hCX : C < X) (hX : X < base) (hP : P < base) (hR : R < base) (hPC : P ≠ C /\ P ≠ X) (hRC : R ≠ C /\ R ≠ X) : Xe C R X P base bs w0 c ⟨n.pieces, n.joints ++ [j]⟩ (w2.setCell ⟨X, 1, none⟩ v') := by
 have hne : ∀ k, v.ownBlock = some k -> base <= k := fun k hk => (hv.lt k hk).1
 have hA := h.below hb;have hBU : Yi (fun k => k = C \/ k = X) base w (w2.setCell ⟨X, 1, none⟩ v') := ((ZC hb h.base_).grown hg hA.base_ hne).trans (zY _ (Or.inl (Or.inr rfl)) _);have hBC : Below (C + 1) wA (w2.setCell ⟨X, 1, none⟩ v') := Below.setCell (Below.grown (Below.refl (C + 1) wA) hg (by have := hA.base_; omega) (fun k hk => by have := hne k hk; omega)) (show C + 1 <= X by omega) _;exact h.step (hA.cur.of_below hBC (by omega)) ((hN.below hb).addJoint hX hg hqs (hv.below hb) (fun q hq => (hqe q hq).below hb) hev hown).in_ hBU hP hR hPC hRC

set_option maxHeartbeats 4000000 in
theorem l5pieces_any (C : Nat) (w : World) : Calls Tryz.prog 83 #[.pointer (some ⟨C, 0, none⟩)] w fun e w' => e = .returned (.pointer (some ⟨w.heap.size, 0, none⟩)) /\ w' = w.alloc (.cells #[.pointer (some ⟨C, 0, none⟩)] 222) := by
 go_enter Tryz.func83, Tryz.ntmps83;go_wp2_with fail;go_ret;exact ⟨rfl, rfl⟩

def RetNet (C : Nat) (bs : List Int) (r : Nt × Cu) (w : World) (e : Ending) (w' : World) : Prop := ∃ v, e = .returned v /\ zE w.heap.size w' v r.1 /\ Za w' C bs r.2 /\ Yi (fun k => k = C) w.heap.size w w'

set_option maxHeartbeats 8000000 in
theorem station_any (C : Nat) (bs : List Int) (c : Cu) (w : World) (hcu : Za w C bs c) (hbs : yy bs) (ha : c.at_ <= 10000000) :
  Calls Tryz.prog 45 #[.pointer (some ⟨C, 0, none⟩)] w (RetNet C bs (yV bs c) w) := by
 have hCl := hcu.lt;have HCU := zd hcu;have HPI := zd (Zd bs c 3);have HPA := zd (zL bs c 3);clear hcu;obtain ⟨i1, hj1, hy0, hy1, hy2⟩ := info_parts qv;go_enter Tryz.func45, Tryz.ntmps45;go_wp2_with fail;refine (l5pieces_any C _).mono ?_;rintro e w1 ⟨rfl, rfl⟩;go_wp2_with fail;have hpi := za HPI;refine (Zp C bs c 3 _ ((za HCU).below bw0) hbs (by omega) (by omega)).mono ?_;rintro e w2 ⟨rfl, hcu2, ho2⟩;obtain ⟨k0, hk0⟩ : ∃ k0 : Nat, (zn bs c 3).1 = k0 := ⟨(zn bs c 3).1.toNat, by omega⟩;rw [hk0] at hpi ⊢;have HK0 := zd hk0;clear hk0;obtain ⟨R, hR⟩ : ∃ R, w.heap.size = R := ⟨_, rfl⟩;have hoW : w2.heap.size = w2.heap.size := rfl;have hwk : IntKind.i64.wrap (1 + (k0 : Int)) = ((1 + k0 : Nat) : Int) := (zj (by omega) (by omega)).trans (by omega);have hs2 := ho2.size;simp only [World.size_alloc] at hs2;obtain ⟨wb, hwb⟩ : ∃ wb, (((w.alloc (.cells #[.slice none 0 0, .slice none 0 0] 26)).alloc (.cells #[.slice none 0 0, .slice none 0 0] 26)).alloc (.cells #[.pointer (some ⟨C, 0, none⟩)] 222)) = wb := ⟨_, rfl⟩
 have hbB : Below w.heap.size w wb := by rw [← hwb]; exact bw0
 have hbR : zg wb w.heap.size [.slice none 0 0, .slice none 0 0] := by rw [← hwb]; exact ((zf w #[.slice none 0 0, .slice none 0 0] 26).alloc _).alloc _
 have hbX : zg wb (w.heap.size + 1) [.slice none 0 0, .slice none 0 0] := by rw [← hwb]; exact (zp _ _ _ (by simp)).alloc _
 have hbP : zg wb (w.heap.size + 1 + 1) [.pointer (some ⟨C, 0, none⟩)] := by rw [← hwb]; exact zp _ _ _ (by simp)
 have hbS : wb.heap.size = w.heap.size + 3 := by rw [← hwb]; simp
 rw [hwb] at ho2;have hs2' := ho2.size;rw [hR] at hbR hbX hbP hbS hCl hs2 ⊢;have HS2 : Hid (Xe C R (R + 1) (R + 1 + 1) (R + 3) bs wb (zn bs c 3).2 ⟨[], []⟩ w2) := ⟨hcu2, ⟨.slice none 0 0, .slice none 0 0, hbX.onlyS ho2 (show ¬ R + 1 = C by omega), zV.nil _ _ _ _ _, ⟨[], rfl, zV.nil _ _ _ _ _, fun q hq => by cases hq⟩⟩, hbP.onlyS ho2 (show ¬ R + 1 + 1 = C by omega), hbR.onlyS ho2 (show ¬ R = C by omega), yr ho2 (fun k _ h => Or.inl h) (by omega), by omega⟩;have HB0 := zd hbB;have HO2 := zd ho2;clear hwb hbB hbR hbX hbP hcu2 ho2;have hpa := za HPA;obtain ⟨base, hbase⟩ : ∃ base, R + 3 = base := ⟨_, rfl⟩;obtain ⟨P, hP⟩ : ∃ P, R + 1 + 1 = P := ⟨_, rfl⟩;obtain ⟨X, hX⟩ : ∃ X, R + 1 = X := ⟨_, rfl⟩;rw [hbase, hP, hX] at HS2;rw [hP, hX];have HEQ := zd (And.intro hbase (And.intro hP hX))
 have hord : C < R /\ R < X /\ X < P /\ P < base := by omega
 clear hbase hP hX;go_wp2_with fail;have h2 := za HS2;refine (vV C P X base bs (zn bs c 3).2 ⟨[], []⟩ _ h2.cur hbs (by omega) h2.pb h2.net (by simp) (by omega) (by omega) (by omega) (by omega) (by omega) h2.base_).mono ?_;clear h2;rintro e w3 ⟨rfl, hcu3, hn3, hbu3⟩;have HS3 := zd ((za HS2).step hcu3 hn3 hbu3 (by omega) (by omega) ⟨by omega, by omega⟩ ⟨by omega, by omega⟩);clear hcu3 hn3 hbu3;obtain ⟨n3, hn3⟩ : ∃ n3, (zI bs (zn bs c 3).2 ⟨[], []⟩).1 = n3 := ⟨_, rfl⟩;obtain ⟨c3, hc3⟩ : ∃ c3, (zI bs (zn bs c 3).2 ⟨[], []⟩).2 = c3 := ⟨_, rfl⟩
 have hl3 : n3.pieces.length = 1 := by rw [← hn3]; rfl
 have hj3 : n3.joints = [] := by rw [← hn3]; rfl
 have ha3 : c3.at_ <= c.at_ + 4 := by rw [← hc3]; have := Yx bs (zn bs c 3).2 ⟨[], []⟩; omega
 rw [hn3, hc3] at HS3
 have HST1 : Hid (ZI bs c = (⟨n3.pieces, [XD 0 0]⟩, c3)) := by unfold Hid ZI; rw [hn3, hc3]
 have HL3 := zd (And.intro hl3 hj3);clear hn3 hc3 hj3 hl3

 obtain ⟨u3, v3, hN3⟩ := (za HS3).net;have hN3 : Yw _ _ _ u3 v3 n3 := hN3;obtain ⟨qs3, hqs3, hqv3, hqe3⟩ := hN3.2.2;obtain ⟨va3, vc3, hve3, _⟩ := hqv3.shape YU;subst hve3
 have HQL3 : Hid (qs3.length = n3.joints.length) := by unfold Hid; rw [← hqs3, List.length_map]
 have hqb3 : qs3.length <= 1000 := by rw [za HQL3]; rw [(za HL3).2]; simp
 have x13 := hN3.1.2.1 1 _ rfl;have xz3 := hN3.1.2.2;have xl3 := hN3.1.1;have hbs3 := (za HS3).base_;have HN3 := zd hN3;have HQV3 := zd hqv3;have HQE3 := zd hqe3;have HQS3 := zd hqs3;clear hN3 hqv3 hqe3 hqs3

 go_wp2_with (at_builtin; refine wpList_append_own _ rfl (.tmp 18) (.tmp 23) 24 rfl base 58 i1 (.agg #[.int .i64 0, .string ⟨#[]⟩, .slice none 0 0]) 3 48 Tryz.underlying24 hj1 hy0 hy1 hy2 rfl (by decide) _ _ _ rfl ((za HQV3).below bw0) ⟨w3.heap.size + 1, 0, none⟩ 1 1 (Uq (XD 0 0, .slice (some ⟨w3.heap.size, 0, none⟩) 1 1)) rfl rfl ?c1 (VA _ _ _ _) ?c2 ?c3 ?c4 ?_)
 case c1 => (first | exact fun _ _ h => h | exact yd (zp _ _ _ (by first | rfl | simp)))
 case c2 => unfold maxLen; omega
 case c3 => omega
 case c4 => (first | omega | (simp; omega))
 intro v' w9 hown9 hgrow9 _;have hrow9 : Xi w9 base v' (qs3 ++ [(XD 0 0, .slice (some ⟨w3.heap.size, 0, none⟩) 1 1)]) := zV.snoc (f := Uq) hown9;obtain ⟨va9, vc9, hve9, _⟩ := hrow9.shape YU;rw [List.length_append, List.length_singleton] at hve9;subst hve9;have hE9 : yg (w3.alloc (.cells #[.int .i64 0, .int .i64 0] 156)) base (.slice (some ⟨w3.heap.size, 0, none⟩) 1 1) (XD 0 0).ends := uM w3 base (by omega) [⟨(0 : Nat), (0 : Nat)⟩] (by simp);have HS9 := zd ((za HS3).joint (za HN3) (za HQS3) (za HQV3) (za HQE3) bw0 (hE9.below bw0) hgrow9 hrow9 (by omega) (by omega) (by omega) (by omega) ⟨by omega, by omega⟩ ⟨by omega, by omega⟩);have hX9 := ((((za HN3).1.alloc _).alloc _).grownE hgrow9 (fun hc => by have := ((za HQV3).lt _ hc).1; omega));have y1 := hX9.2.1 1 _ rfl;have yz := hX9.2.2;have yl := hX9.1;clear hown9 hgrow9 hrow9 hE9 hX9;go_wp2_with fail
 have HS4 : Hid (Xe C R X P base bs wb c3 ⟨n3.pieces, [XD 0 0]⟩ (w9.setCell ⟨X, 1, none⟩ (.slice va9 (qs3.length + 1) vc9))) := by
  have := za HS9;rw [(za HL3).2] at this;exact this
 clear HS9 y1 yz yl
 go_loopw [5, 6] (fun z y wr => ∃ (k p : Nat) (n : Nt) (cc : Cu), z = .int .i64 k /\ y = .int .i64 p /\ k <= 3 /\ n.pieces.length + 3 * k <= 10 /\ n.joints.length + 2 * k <= 7 /\ cc.at_ + 6 * k <= c.at_ + 22 /\ Hid (Zn bs k p n cc = Zn bs (1 + k0) 0 ⟨n3.pieces, [XD 0 0]⟩ c3) /\ Hid (Xe C R X P base bs wb cc n wr)) (fun z _ _ => (intOf z).toNat)
 case atStart => exact ⟨1 + k0, 0, ⟨n3.pieces, [XD 0 0]⟩, c3, by simp, rfl, by omega, by have := (za HL3).1; show n3.pieces.length + 3 * (1 + k0) <= 10; omega, by show 1 + 2 * (1 + k0) <= 7; omega, by omega, rfl, HS4⟩
 case round =>
  clear HS4 HS2 HS3 HN3 HQV3 HQE3 HQS3 x13 xz3 xl3 hbs3 hqb3;obtain ⟨k, p, n, cc, rfl, rfl, hk3, hlp, hlj, hat, HGO, HSR⟩ := hrel
  by_cases hk : 0 < k
  ·obtain ⟨k', rfl⟩ : ∃ k', k = k' + 1 := ⟨k - 1, by omega⟩
   have hkp : (0 : Int) < ((k' + 1 : Nat) : Int) := by omega
   have hkw : IntKind.i64.wrap (((k' + 1 : Nat) : Int) - 1) = (k' : Int) := (zj (by omega) (by omega)).trans (by omega);go_wp2_with fail;have h4 := za HSR;refine (vV C P X base bs cc n _ h4.cur hbs (by omega) h4.pb h4.net (by omega) (by omega) (by omega) (by omega) (by omega) (by omega) h4.base_).mono ?_;clear h4;rintro e wA ⟨rfl, hcuA, hnA, hbuA⟩;have HSA := zd ((za HSR).step hcuA hnA hbuA (by omega) (by omega) ⟨by omega, by omega⟩ ⟨by omega, by omega⟩);clear hcuA hnA hbuA;obtain ⟨nA, hnA⟩ : ∃ nA, (zI bs cc n).1 = nA := ⟨_, rfl⟩;obtain ⟨cA, hcA⟩ : ∃ cA, (zI bs cc n).2 = cA := ⟨_, rfl⟩
   have HLA : Hid (nA.pieces.length = n.pieces.length + 1 /\ nA.joints = n.joints) := by rw [← hnA]; exact ⟨Ys _ _ _, rfl⟩
   have haA : cA.at_ <= cc.at_ + 2 := by rw [← hcA]; exact Yx _ _ _
   rw [hnA, hcA] at HSA;obtain ⟨a, hla⟩ : ∃ a, n.pieces.length = a := ⟨_, rfl⟩;rw [hla] at hlp ⊢;have HA := zd hla;have HPA := zd (And.intro hnA hcA);clear hla hnA hcA;go_wp2_with fail;have h4 := za HSA;refine (vV C P X base bs cA nA _ h4.cur hbs (by omega) h4.pb h4.net (by have h5 := (za HLA).1; have h6 := za HA; omega) (by omega) (by omega) (by omega) (by omega) (by omega) h4.base_).mono ?_;clear h4;rintro e wB ⟨rfl, hcuB, hnB, hbuB⟩;have HSB := zd ((za HSA).step hcuB hnB hbuB (by omega) (by omega) ⟨by omega, by omega⟩ ⟨by omega, by omega⟩);clear hcuB hnB hbuB;obtain ⟨nB, hnB⟩ : ∃ nB, (zI bs cA nA).1 = nB := ⟨_, rfl⟩;obtain ⟨cB, hcB⟩ : ∃ cB, (zI bs cA nA).2 = cB := ⟨_, rfl⟩
   have HLB : Hid (nB.pieces.length = nA.pieces.length + 1 /\ nB.joints = nA.joints) := by rw [← hnB]; exact ⟨Ys _ _ _, rfl⟩
   have haB : cB.at_ <= cA.at_ + 2 := by rw [← hcB]; exact Yx _ _ _
   rw [hnB, hcB] at HSB;obtain ⟨b, hlb⟩ : ∃ b, nA.pieces.length = b := ⟨_, rfl⟩;rw [hlb];have HB := zd hlb;have HPB := zd (And.intro hnB hcB);clear hlb hnB hcB;go_wp2_with fail;have h4 := za HSB;refine (vV C P X base bs cB nB _ h4.cur hbs (by omega) h4.pb h4.net (by have h5 := (za HLA).1; have h6 := za HA; have h7 := (za HLB).1; omega) (by omega) (by omega) (by omega) (by omega) (by omega) h4.base_).mono ?_;clear h4;rintro e wC ⟨rfl, hcuC, hnC, hbuC⟩;have HSC := zd ((za HSB).step hcuC hnC hbuC (by omega) (by omega) ⟨by omega, by omega⟩ ⟨by omega, by omega⟩);clear hcuC hnC hbuC;obtain ⟨nC, hnC⟩ : ∃ nC, (zI bs cB nB).1 = nC := ⟨_, rfl⟩;obtain ⟨cC, hcC⟩ : ∃ cC, (zI bs cB nB).2 = cC := ⟨_, rfl⟩
   have HLC : Hid (nC.pieces.length = nB.pieces.length + 1 /\ nC.joints = nB.joints) := by rw [← hnC]; exact ⟨Ys _ _ _, rfl⟩
   have haC : cC.at_ <= cB.at_ + 2 := by rw [← hcC]; exact Yx _ _ _
   rw [hnC, hcC] at HSC;obtain ⟨q, hlq⟩ : ∃ q, nB.pieces.length = q := ⟨_, rfl⟩;rw [hlq];have HQ := zd hlq
   have HTH : Hid (XU bs cc n = (nC, cC)) := by
    unfold Hid XU;rw [(za HPA).1, (za HPA).2, (za HPB).1, (za HPB).2];exact Prod.ext hnC hcC
   have HJC : Hid (nC.joints = n.joints) := (za HLC).2.trans ((za HLB).2.trans (za HLA).2)
   have HABQ : Hid (n.pieces.length = a /\ b = a + 1 /\ q = a + 2 /\ nC.pieces.length = a + 3) := by
    have h1 := za HA;have h2 := (za HLA).1;have h3 := za HB;have h4 := (za HLB).1;have h5 := za HQ;have h6 := (za HLC).1;exact ⟨h1, by omega, by omega, by omega⟩
   clear hnC hcC hlq HPA HPB HLA HLB HLC HA HB HQ HSA HSB HSR;go_upto_region 11 with fail
   go_cut [5] (fun z wx => z = .int .i64 ((k' + 1 : Nat) : Int) /\ Hid (Xe C R X P base bs wb cC ⟨nC.pieces, n.joints ++ [swA n.joints.length p a b]⟩ wx))
   case first =>
    obtain ⟨uC, vC, hNC⟩ := (za HSC).net;have hNC : Yw _ _ _ uC vC nC := hNC;obtain ⟨qsC, hqsC, hqvC, hqeC⟩ := hNC.2.2;obtain ⟨vaC, vcC, hveC, _⟩ := hqvC.shape YU;subst hveC
    have HQLC : Hid (qsC.length = nC.joints.length) := by unfold Hid; rw [← hqsC, List.length_map]
    have hqbC : qsC.length <= 1000 := by rw [za HQLC]; rw [za HJC]; omega
    have x1C := hNC.1.2.1 1 _ rfl;have xzC := hNC.1.2.2;have xlC := hNC.1.1;have hbsC := (za HSC).base_;have HNC := zd hNC;have HQVC := zd hqvC;have HQEC := zd hqeC;have HQSC := zd hqsC;clear hNC hqvC hqeC hqsC

    have hwqC : IntKind.i64.wrap (100 + (qsC.length : Int)) = ((100 + qsC.length : Nat) : Int) := (zj (by omega) (by omega)).trans (by omega);refine yA (S := fun w' => w'.cell? ⟨X, 1, none⟩ = some (.slice vaC qsC.length vcC)) 19 (by kernel_rfl) ?_ (fun hHeld => ?_)
    ·simpa using x1C
    refine yj 0 [1, 17, 18, 19] ?_;refine yj 1 [17, 18, 19] ?_;refine yj 2 [7, 15, 16, 17, 18, 19] ?_;refine yj 3 [4, 5, 6, 7, 15, 16, 17, 18, 19] ?_;refine yj 4 [5, 6, 7, 15, 16, 17, 18, 19] ?_;refine yj 5 [6, 7, 15, 16, 17, 18, 19] ?_;refine yj 6 [7, 15, 16, 17, 18, 19] ?_;refine yj 8 [9, 14, 15, 16, 17, 18, 19] ?_;refine yj 9 [14, 15, 16, 17, 18, 19] ?_;refine yj 10 [11, 14, 15, 16, 17, 18, 19] ?_;refine yj 11 [14, 15, 16, 17, 18, 19] ?_;refine yj 12 [13, 14, 15, 16, 17, 18, 19] ?_;refine yj 13 [14, 15, 16, 17, 18, 19] ?_;refine zo (rs := [7, 14]) (by kernel_rfl) (by simp) ?_;refine (zh.cons rfl (fun K hK => ?_) (zh.cons rfl (fun K hK => ?_) zh.nil))
    ·go_simp;refine (xI _ (100 + qsC.length) _ (by omega)).mono ?_;rintro e wn ⟨rfl, hbn⟩;dsimp only;have hB : Below wC.heap.size wC wn := below_then bw0 hbn;have hNn := (za HNC).below hB;have hHeld := hNn.1.2.1 1 _ rfl;have xln := hNn.1.1;have hsn := hB.size;clear hNn;refine hK.out _ _ (fun _ => hHeld) (fun _ => ?_);clear hK K
     (try simp only [sA])
     refine zo (rs := [14]) (by kernel_rfl) (by simp) ?_;refine (zh.cons rfl (fun K hK => ?_) zh.nil);go_simp;have hE : yg (wn.alloc (.cells #[.int .i64 p, .int .i64 1, .int .i64 a, .int .i64 0, .int .i64 b, .int .i64 0] 156)) base (.slice (some ⟨wn.heap.size, 0, none⟩) 3 3) [⟨p, 1⟩, ⟨a, 0⟩, ⟨b, 0⟩] := uM wn base (show base <= wn.heap.size by omega) [⟨p, 1⟩, ⟨a, 0⟩, ⟨b, 0⟩] (by simp);have hB : Below wC.heap.size wC (wn.alloc (.cells #[.int .i64 p, .int .i64 1, .int .i64 a, .int .i64 0, .int .i64 b, .int .i64 0] 156)) := below_then hB bw0;have hNn := (za HNC).below hB;have hHeld := hNn.1.2.1 1 _ rfl;clear hNn;refine hK.out _ _ (fun _ => hHeld) (fun _ => ?_);clear hK K
     (try simp only [sA])
     refine yj 15 [16, 17, 18, 19] ?_;refine zo (rs := [16]) (by kernel_rfl) (by simp) ?_;refine (zh.cons rfl (fun K hK => ?_) zh.nil);go_simp;have hE := hE.below (bw0 : Below _ _ ((wn.alloc (.cells #[.int .i64 p, .int .i64 1, .int .i64 a, .int .i64 0, .int .i64 b, .int .i64 0] 156)).alloc (.cells #[.int .i64 3, .string (ZX (100 + qsC.length)), .slice (some ⟨wn.heap.size, 0, none⟩) 3 3] 58)));have hB : Below wC.heap.size wC ((wn.alloc (.cells #[.int .i64 p, .int .i64 1, .int .i64 a, .int .i64 0, .int .i64 b, .int .i64 0] 156)).alloc (.cells #[.int .i64 3, .string (ZX (100 + qsC.length)), .slice (some ⟨wn.heap.size, 0, none⟩) 3 3] 58)) := below_then hB bw0;have hNn := (za HNC).below hB;have hHeld := hNn.1.2.1 1 _ rfl;have hsn2 := hB.size;clear hNn;refine hK.out _ _ (fun _ => hHeld) (fun _ => ?_);clear hK K
     (try simp only [sA])
     refine zo (rs := [17]) (by kernel_rfl) (by simp) ?_;refine (zh.cons rfl (fun K hK => ?_) zh.nil);refine step_append_lies _ rfl (.tmp 37) (.tmp 52) 24 rfl base 58 i1 (.agg #[.int .i64 0, .string ⟨#[]⟩, .slice none 0 0]) 3 48 Tryz.underlying24 hj1 hy0 hy1 hy2 rfl (by decide) (.slice vaC qsC.length vcC) qsC.length (qsC.flatMap Uq) (by simp [Act.eval]) ((za HQVC).below hB) _ 1 1 (Uq (swA qsC.length p a b, .slice (some ⟨wn.heap.size, 0, none⟩) 3 3)) (by simp [Act.eval]) rfl (yd (zf _ _ _)) (VA _ _ _ _) (by omega) (by unfold maxLen; omega) (by omega) (Nat.le_trans (show base <= wC.heap.size by omega) hB.size) _ rfl ?_;intro g gcap w9 hown9 hgrow9 hat9 hlt9;have hrow9 : Xi w9 base (.slice (some ⟨g, 0, none⟩) (qsC.length + 1) gcap) (qsC ++ [(swA qsC.length p a b, .slice (some ⟨wn.heap.size, 0, none⟩) 3 3)]) := zV.snoc (f := Uq) hown9;have HS9 := zd ((za HSC).joint (za HNC) (za HQSC) (za HQVC) (za HQEC) hB hE hgrow9 hrow9 (by omega) (by omega) (by omega) (by omega) ⟨by omega, by omega⟩ ⟨by omega, by omega⟩);have hX9 := ((za HNC).below hB).1.grownE hgrow9 (fun hc => by have := ((za HQVC).lt _ hc).1; omega);have y1 := hX9.2.1 1 _ rfl;have yz := hX9.2.2;have yl := hX9.1;clear hown9 hgrow9 hrow9 hat9;refine hK.out _ _ (fun _ => y1) (fun _ => ?_);clear hK K
     (try simp only [sA])
     refine yj 18 [19] ?_;refine zo (rs := [19]) (by kernel_rfl) (by simp) ?_;refine (zh.cons rfl (fun K hK => ?_) zh.nil);go_simp;refine hK.out _ _ (fun h => absurd rfl h) (fun _ => ?_);clear hK K
     (try simp only [sA])
     refine ZK (by kernel_rfl) ?_ _

     go_wp2_with fail;go_meet;refine ⟨rfl, ?_⟩;unfold Hid;have h9 := za HS9;rw [show swA qsC.length p a b = swA n.joints.length p a b by rw [za HQLC, za HJC], za HJC] at h9;exact h9
    ·go_simp;have hE : yg (wC.drew.alloc (.cells #[.int .i64 p, .int .i64 1, .int .i64 a, .int .i64 0, .int .i64 b, .int .i64 0] 156)) base (.slice (some ⟨wC.heap.size, 0, none⟩) 3 3) [⟨p, 1⟩, ⟨a, 0⟩, ⟨b, 0⟩] := uM wC.drew base (show base <= wC.heap.size by omega) [⟨p, 1⟩, ⟨a, 0⟩, ⟨b, 0⟩] (by simp);have hB : Below wC.heap.size wC (wC.drew.alloc (.cells #[.int .i64 p, .int .i64 1, .int .i64 a, .int .i64 0, .int .i64 b, .int .i64 0] 156)) := bw0;have hNn := (za HNC).below hB;have hHeld := hNn.1.2.1 1 _ rfl;clear hNn;refine hK.out _ _ (fun _ => hHeld) (fun _ => ?_);clear hK K
     (try simp only [sA])
     refine zo (rs := [7]) (by kernel_rfl) (by simp) ?_;refine (zh.cons rfl (fun K hK => ?_) zh.nil);go_simp;refine (xI _ (100 + qsC.length) _ (by omega)).mono ?_;rintro e wn ⟨rfl, hbn⟩;dsimp only;have hE := hE.below hbn;have hB : Below wC.heap.size wC wn := below_then hB hbn;have hNn := (za HNC).below hB;have hHeld := hNn.1.2.1 1 _ rfl;have xln := hNn.1.1;have hsn := hB.size;clear hNn;refine hK.out _ _ (fun _ => hHeld) (fun _ => ?_);clear hK K
     (try simp only [sA])
     refine yj 15 [16, 17, 18, 19] ?_;refine zo (rs := [16]) (by kernel_rfl) (by simp) ?_;refine (zh.cons rfl (fun K hK => ?_) zh.nil);go_simp;have hE := hE.below (bw0 : Below _ _ (wn.alloc (.cells #[.int .i64 3, .string (ZX (100 + qsC.length)), .slice (some ⟨wC.heap.size, 0, none⟩) 3 3] 58)));have hB : Below wC.heap.size wC (wn.alloc (.cells #[.int .i64 3, .string (ZX (100 + qsC.length)), .slice (some ⟨wC.heap.size, 0, none⟩) 3 3] 58)) := below_then hB bw0;have hNn := (za HNC).below hB;have hHeld := hNn.1.2.1 1 _ rfl;have hsn2 := hB.size;clear hNn;refine hK.out _ _ (fun _ => hHeld) (fun _ => ?_);clear hK K
     (try simp only [sA])
     refine zo (rs := [17]) (by kernel_rfl) (by simp) ?_;refine (zh.cons rfl (fun K hK => ?_) zh.nil);refine step_append_lies _ rfl (.tmp 37) (.tmp 52) 24 rfl base 58 i1 (.agg #[.int .i64 0, .string ⟨#[]⟩, .slice none 0 0]) 3 48 Tryz.underlying24 hj1 hy0 hy1 hy2 rfl (by decide) (.slice vaC qsC.length vcC) qsC.length (qsC.flatMap Uq) (by simp [Act.eval]) ((za HQVC).below hB) _ 1 1 (Uq (swA qsC.length p a b, .slice (some ⟨wC.heap.size, 0, none⟩) 3 3)) (by simp [Act.eval]) rfl (yd (zf _ _ _)) (VA _ _ _ _) (by omega) (by unfold maxLen; omega) (by omega) (Nat.le_trans (show base <= wC.heap.size by omega) hB.size) _ rfl ?_;intro g gcap w9 hown9 hgrow9 hat9 hlt9;have hrow9 : Xi w9 base (.slice (some ⟨g, 0, none⟩) (qsC.length + 1) gcap) (qsC ++ [(swA qsC.length p a b, .slice (some ⟨wC.heap.size, 0, none⟩) 3 3)]) := zV.snoc (f := Uq) hown9;have HS9 := zd ((za HSC).joint (za HNC) (za HQSC) (za HQVC) (za HQEC) hB hE hgrow9 hrow9 (by omega) (by omega) (by omega) (by omega) ⟨by omega, by omega⟩ ⟨by omega, by omega⟩);have hX9 := ((za HNC).below hB).1.grownE hgrow9 (fun hc => by have := ((za HQVC).lt _ hc).1; omega);have y1 := hX9.2.1 1 _ rfl;have yz := hX9.2.2;have yl := hX9.1;clear hown9 hgrow9 hrow9 hat9;refine hK.out _ _ (fun _ => y1) (fun _ => ?_);clear hK K
     (try simp only [sA])
     refine yj 18 [19] ?_;refine zo (rs := [19]) (by kernel_rfl) (by simp) ?_;refine (zh.cons rfl (fun K hK => ?_) zh.nil);go_simp;refine hK.out _ _ (fun h => absurd rfl h) (fun _ => ?_);clear hK K
     (try simp only [sA])
     refine ZK (by kernel_rfl) ?_ _

     go_wp2_with fail;go_meet;refine ⟨rfl, ?_⟩;unfold Hid;have h9 := za HS9;rw [show swA qsC.length p a b = swA n.joints.length p a b by rw [za HQLC, za HJC], za HJC] at h9;exact h9
   case rest =>
    obtain ⟨rfl, HSD⟩ := hcut;go_upto_region 12 with fail
    go_cut [5] (fun z wx => z = .int .i64 ((k' + 1 : Nat) : Int) /\ Hid (Xe C R X P base bs wb cC ⟨nC.pieces, (n.joints ++ [swA n.joints.length p a b]) ++ [swB (n.joints.length + 1) q a b]⟩ wx))
    case first =>
     obtain ⟨uD, vD, hND⟩ := (za HSD).net;have hND : Yw _ _ _ uD vD (⟨nC.pieces, n.joints ++ [swA n.joints.length p a b]⟩ : Nt) := hND;obtain ⟨qsD, hqsD, hqvD, hqeD⟩ := hND.2.2;obtain ⟨vaD, vcD, hveD, _⟩ := hqvD.shape YU;subst hveD
     have HQLD : Hid (qsD.length = (⟨nC.pieces, n.joints ++ [swA n.joints.length p a b]⟩ : Nt).joints.length) := by unfold Hid; rw [← hqsD, List.length_map]
     have hqbD : qsD.length <= 1000 := by rw [za HQLD]; simp; omega
     have x1D := hND.1.2.1 1 _ rfl;have xzD := hND.1.2.2;have xlD := hND.1.1;have hbsD := (za HSD).base_;have HND := zd hND;have HQVD := zd hqvD;have HQED := zd hqeD;have HQSD := zd hqsD;clear hND hqvD hqeD hqsD

     have hwqD : IntKind.i64.wrap (100 + (qsD.length : Int)) = ((100 + qsD.length : Nat) : Int) := (zj (by omega) (by omega)).trans (by omega);refine yA (S := fun w' => w'.cell? ⟨X, 1, none⟩ = some (.slice vaD qsD.length vcD)) 19 (by kernel_rfl) ?_ (fun hHeld => ?_)
     ·simpa using x1D
     refine yj 0 [1, 17, 18, 19] ?_;refine yj 1 [17, 18, 19] ?_;refine yj 2 [7, 15, 16, 17, 18, 19] ?_;refine yj 3 [4, 5, 6, 7, 15, 16, 17, 18, 19] ?_;refine yj 4 [5, 6, 7, 15, 16, 17, 18, 19] ?_;refine yj 5 [6, 7, 15, 16, 17, 18, 19] ?_;refine yj 6 [7, 15, 16, 17, 18, 19] ?_;refine yj 8 [9, 14, 15, 16, 17, 18, 19] ?_;refine yj 9 [14, 15, 16, 17, 18, 19] ?_;refine yj 10 [11, 14, 15, 16, 17, 18, 19] ?_;refine yj 11 [14, 15, 16, 17, 18, 19] ?_;refine yj 12 [13, 14, 15, 16, 17, 18, 19] ?_;refine yj 13 [14, 15, 16, 17, 18, 19] ?_;refine zo (rs := [7, 14]) (by kernel_rfl) (by simp) ?_;refine (zh.cons rfl (fun K hK => ?_) (zh.cons rfl (fun K hK => ?_) zh.nil))
     ·go_simp;refine (xI _ (100 + qsD.length) _ (by omega)).mono ?_;rintro e wn ⟨rfl, hbn⟩;dsimp only;have hB : Below wc.heap.size wc wn := below_then bw0 hbn;have hNn := (za HND).below hB;have hHeld := hNn.1.2.1 1 _ rfl;have xln := hNn.1.1;have hsn := hB.size;clear hNn;refine hK.out _ _ (fun _ => hHeld) (fun _ => ?_);clear hK K
      (try simp only [sA])
      refine zo (rs := [14]) (by kernel_rfl) (by simp) ?_;refine (zh.cons rfl (fun K hK => ?_) zh.nil);go_simp;have hE : yg (wn.alloc (.cells #[.int .i64 q, .int .i64 0, .int .i64 a, .int .i64 1, .int .i64 b, .int .i64 1] 156)) base (.slice (some ⟨wn.heap.size, 0, none⟩) 3 3) [⟨q, 0⟩, ⟨a, 1⟩, ⟨b, 1⟩] := uM wn base (show base <= wn.heap.size by omega) [⟨q, 0⟩, ⟨a, 1⟩, ⟨b, 1⟩] (by simp);have hB : Below wc.heap.size wc (wn.alloc (.cells #[.int .i64 q, .int .i64 0, .int .i64 a, .int .i64 1, .int .i64 b, .int .i64 1] 156)) := below_then hB bw0;have hNn := (za HND).below hB;have hHeld := hNn.1.2.1 1 _ rfl;clear hNn;refine hK.out _ _ (fun _ => hHeld) (fun _ => ?_);clear hK K
      (try simp only [sA])
      refine yj 15 [16, 17, 18, 19] ?_;refine zo (rs := [16]) (by kernel_rfl) (by simp) ?_;refine (zh.cons rfl (fun K hK => ?_) zh.nil);go_simp;have hE := hE.below (bw0 : Below _ _ ((wn.alloc (.cells #[.int .i64 q, .int .i64 0, .int .i64 a, .int .i64 1, .int .i64 b, .int .i64 1] 156)).alloc (.cells #[.int .i64 3, .string (ZX (100 + qsD.length)), .slice (some ⟨wn.heap.size, 0, none⟩) 3 3] 58)));have hB : Below wc.heap.size wc ((wn.alloc (.cells #[.int .i64 q, .int .i64 0, .int .i64 a, .int .i64 1, .int .i64 b, .int .i64 1] 156)).alloc (.cells #[.int .i64 3, .string (ZX (100 + qsD.length)), .slice (some ⟨wn.heap.size, 0, none⟩) 3 3] 58)) := below_then hB bw0;have hNn := (za HND).below hB;have hHeld := hNn.1.2.1 1 _ rfl;have hsn2 := hB.size;clear hNn;refine hK.out _ _ (fun _ => hHeld) (fun _ => ?_);clear hK K
      (try simp only [sA])
      refine zo (rs := [17]) (by kernel_rfl) (by simp) ?_;refine (zh.cons rfl (fun K hK => ?_) zh.nil);refine step_append_lies _ rfl (.tmp 56) (.tmp 71) 24 rfl base 58 i1 (.agg #[.int .i64 0, .string ⟨#[]⟩, .slice none 0 0]) 3 48 Tryz.underlying24 hj1 hy0 hy1 hy2 rfl (by decide) (.slice vaD qsD.length vcD) qsD.length (qsD.flatMap Uq) (by simp [Act.eval]) ((za HQVD).below hB) _ 1 1 (Uq (swB qsD.length q a b, .slice (some ⟨wn.heap.size, 0, none⟩) 3 3)) (by simp [Act.eval]) rfl (yd (zf _ _ _)) (VA _ _ _ _) (by omega) (by unfold maxLen; omega) (by omega) (Nat.le_trans (show base <= wc.heap.size by omega) hB.size) _ rfl ?_;intro g gcap w9 hown9 hgrow9 hat9 hlt9;have hrow9 : Xi w9 base (.slice (some ⟨g, 0, none⟩) (qsD.length + 1) gcap) (qsD ++ [(swB qsD.length q a b, .slice (some ⟨wn.heap.size, 0, none⟩) 3 3)]) := zV.snoc (f := Uq) hown9;have HS9 := zd ((za HSD).joint (za HND) (za HQSD) (za HQVD) (za HQED) hB hE hgrow9 hrow9 (by omega) (by omega) (by omega) (by omega) ⟨by omega, by omega⟩ ⟨by omega, by omega⟩);have hX9 := ((za HND).below hB).1.grownE hgrow9 (fun hc => by have := ((za HQVD).lt _ hc).1; omega);have y1 := hX9.2.1 1 _ rfl;have yz := hX9.2.2;have yl := hX9.1;clear hown9 hgrow9 hrow9 hat9;refine hK.out _ _ (fun _ => y1) (fun _ => ?_);clear hK K
      (try simp only [sA])
      refine yj 18 [19] ?_;refine zo (rs := [19]) (by kernel_rfl) (by simp) ?_;refine (zh.cons rfl (fun K hK => ?_) zh.nil);go_simp;refine hK.out _ _ (fun h => absurd rfl h) (fun _ => ?_);clear hK K
      (try simp only [sA])
      refine ZK (by kernel_rfl) ?_ _

      go_wp2_with fail;go_meet;refine ⟨rfl, ?_⟩;unfold Hid;have h9 := za HS9;rw [show swB qsD.length q a b = swB (n.joints.length + 1) q a b by rw [za HQLD]; simp] at h9;exact h9
     ·go_simp;have hE : yg (wc.drew.alloc (.cells #[.int .i64 q, .int .i64 0, .int .i64 a, .int .i64 1, .int .i64 b, .int .i64 1] 156)) base (.slice (some ⟨wc.heap.size, 0, none⟩) 3 3) [⟨q, 0⟩, ⟨a, 1⟩, ⟨b, 1⟩] := uM wc.drew base (show base <= wc.heap.size by omega) [⟨q, 0⟩, ⟨a, 1⟩, ⟨b, 1⟩] (by simp);have hB : Below wc.heap.size wc (wc.drew.alloc (.cells #[.int .i64 q, .int .i64 0, .int .i64 a, .int .i64 1, .int .i64 b, .int .i64 1] 156)) := bw0;have hNn := (za HND).below hB;have hHeld := hNn.1.2.1 1 _ rfl;clear hNn;refine hK.out _ _ (fun _ => hHeld) (fun _ => ?_);clear hK K
      (try simp only [sA])
      refine zo (rs := [7]) (by kernel_rfl) (by simp) ?_;refine (zh.cons rfl (fun K hK => ?_) zh.nil);go_simp;refine (xI _ (100 + qsD.length) _ (by omega)).mono ?_;rintro e wn ⟨rfl, hbn⟩;dsimp only;have hE := hE.below hbn;have hB : Below wc.heap.size wc wn := below_then hB hbn;have hNn := (za HND).below hB;have hHeld := hNn.1.2.1 1 _ rfl;have xln := hNn.1.1;have hsn := hB.size;clear hNn;refine hK.out _ _ (fun _ => hHeld) (fun _ => ?_);clear hK K
      (try simp only [sA])
      refine yj 15 [16, 17, 18, 19] ?_;refine zo (rs := [16]) (by kernel_rfl) (by simp) ?_;refine (zh.cons rfl (fun K hK => ?_) zh.nil);go_simp;have hE := hE.below (bw0 : Below _ _ (wn.alloc (.cells #[.int .i64 3, .string (ZX (100 + qsD.length)), .slice (some ⟨wc.heap.size, 0, none⟩) 3 3] 58)));have hB : Below wc.heap.size wc (wn.alloc (.cells #[.int .i64 3, .string (ZX (100 + qsD.length)), .slice (some ⟨wc.heap.size, 0, none⟩) 3 3] 58)) := below_then hB bw0;have hNn := (za HND).below hB;have hHeld := hNn.1.2.1 1 _ rfl;have hsn2 := hB.size;clear hNn;refine hK.out _ _ (fun _ => hHeld) (fun _ => ?_);clear hK K
      (try simp only [sA])
      refine zo (rs := [17]) (by kernel_rfl) (by simp) ?_;refine (zh.cons rfl (fun K hK => ?_) zh.nil);refine step_append_lies _ rfl (.tmp 56) (.tmp 71) 24 rfl base 58 i1 (.agg #[.int .i64 0, .string ⟨#[]⟩, .slice none 0 0]) 3 48 Tryz.underlying24 hj1 hy0 hy1 hy2 rfl (by decide) (.slice vaD qsD.length vcD) qsD.length (qsD.flatMap Uq) (by simp [Act.eval]) ((za HQVD).below hB) _ 1 1 (Uq (swB qsD.length q a b, .slice (some ⟨wc.heap.size, 0, none⟩) 3 3)) (by simp [Act.eval]) rfl (yd (zf _ _ _)) (VA _ _ _ _) (by omega) (by unfold maxLen; omega) (by omega) (Nat.le_trans (show base <= wc.heap.size by omega) hB.size) _ rfl ?_;intro g gcap w9 hown9 hgrow9 hat9 hlt9;have hrow9 : Xi w9 base (.slice (some ⟨g, 0, none⟩) (qsD.length + 1) gcap) (qsD ++ [(swB qsD.length q a b, .slice (some ⟨wc.heap.size, 0, none⟩) 3 3)]) := zV.snoc (f := Uq) hown9;have HS9 := zd ((za HSD).joint (za HND) (za HQSD) (za HQVD) (za HQED) hB hE hgrow9 hrow9 (by omega) (by omega) (by omega) (by omega) ⟨by omega, by omega⟩ ⟨by omega, by omega⟩);have hX9 := ((za HND).below hB).1.grownE hgrow9 (fun hc => by have := ((za HQVD).lt _ hc).1; omega);have y1 := hX9.2.1 1 _ rfl;have yz := hX9.2.2;have yl := hX9.1;clear hown9 hgrow9 hrow9 hat9;refine hK.out _ _ (fun _ => y1) (fun _ => ?_);clear hK K
      (try simp only [sA])
      refine yj 18 [19] ?_;refine zo (rs := [19]) (by kernel_rfl) (by simp) ?_;refine (zh.cons rfl (fun K hK => ?_) zh.nil);go_simp;refine hK.out _ _ (fun h => absurd rfl h) (fun _ => ?_);clear hK K
      (try simp only [sA])
      refine ZK (by kernel_rfl) ?_ _

      go_wp2_with fail;go_meet;refine ⟨rfl, ?_⟩;unfold Hid;have h9 := za HS9;rw [show swB qsD.length q a b = swB (n.joints.length + 1) q a b by rw [za HQLD]; simp] at h9;exact h9
    case rest =>
     obtain ⟨rfl, HSE⟩ := hcut;go_wp2_with fail;obtain ⟨e1, e2, e3, e4⟩ := za HABQ;refine ⟨⟨k', q, _, cC, rfl, rfl, by omega, ?_, ?_, by omega, ?_, HSE⟩, by simp [intOf]⟩
     ·show nC.pieces.length + 3 * k' <= 10
      omega
     ·simp only [List.length_append, List.length_singleton];omega
     ·rw [← za HGO]
      show _ = Zn bs k' (n.pieces.length + 2) _ _
      rw [za HTH, e1, e2, e3]
  ·have hkp : ¬ (0 : Int) < (k : Int) := by omega
   have hk0' : k = 0 := by omega
   subst hk0';have HSF := HSR;obtain ⟨uF, vF, hNF⟩ := (za HSF).net;have hNF : Yw _ _ _ uF vF n := hNF;obtain ⟨qsF, hqsF, hqvF, hqeF⟩ := hNF.2.2;obtain ⟨vaF, vcF, hveF, _⟩ := hqvF.shape YU;subst hveF
   have HQLF : Hid (qsF.length = n.joints.length) := by unfold Hid; rw [← hqsF, List.length_map]
   have hqbF : qsF.length <= 1000 := by rw [za HQLF]; omega
   have x1F := hNF.1.2.1 1 _ rfl;have xzF := hNF.1.2.2;have xlF := hNF.1.1;have hbsF := (za HSF).base_;have HNF := zd hNF;have HQVF := zd hqvF;have HQEF := zd hqeF;have HQSF := zd hqsF;clear hNF hqvF hqeF hqsF

   go_wp2_with (at_builtin; refine wpList_append_own _ rfl (.tmp 76) (.tmp 81) 24 rfl base 58 i1 (.agg #[.int .i64 0, .string ⟨#[]⟩, .slice none 0 0]) 3 48 Tryz.underlying24 hj1 hy0 hy1 hy2 rfl (by decide) _ _ _ rfl ((za HQVF).below bw0) ⟨wr.heap.size + 1, 0, none⟩ 1 1 (Uq (XD p 1, .slice (some ⟨wr.heap.size, 0, none⟩) 1 1)) rfl rfl ?c1 (VA _ _ _ _) ?c2 ?c3 ?c4 ?_)
   case c1 => (first | exact fun _ _ h => h | exact yd (zp _ _ _ (by first | rfl | simp)))
   case c2 => unfold maxLen; omega
   case c3 => omega
   case c4 => (first | omega | (simp; omega))
   intro v' w9 hown9 hgrow9 _;have hrow9 : Xi w9 base v' (qsF ++ [(XD p 1, .slice (some ⟨wr.heap.size, 0, none⟩) 1 1)]) := zV.snoc (f := Uq) hown9;obtain ⟨va9, vc9, hve9, _⟩ := hrow9.shape YU;rw [List.length_append, List.length_singleton] at hve9;subst hve9;have hE9 : yg (wr.alloc (.cells #[.int .i64 p, .int .i64 1] 156)) base (.slice (some ⟨wr.heap.size, 0, none⟩) 1 1) (XD p 1).ends := uM wr base (by omega) [⟨(p : Nat), (1 : Nat)⟩] (by simp);have HS9 := zd ((za HSF).joint (za HNF) (za HQSF) (za HQVF) (za HQEF) bw0 (hE9.below bw0) hgrow9 hrow9 (by omega) (by omega) (by omega) (by omega) ⟨by omega, by omega⟩ ⟨by omega, by omega⟩);have hX9 := ((((za HNF).1.alloc _).alloc _).grownE hgrow9 (fun hc => by have := ((za HQVF).lt _ hc).1; omega));have y1 := hX9.2.1 1 _ rfl;have yz := hX9.2.2;have yl := hX9.1;clear hown9 hgrow9 hrow9 hE9 hX9;go_upto_region 15 with fail;obtain ⟨wz, hwz⟩ : ∃ wz, w9.setCell ⟨X, 1, none⟩ (.slice va9 (qsF.length + 1) vc9) = wz := ⟨_, rfl⟩;rw [hwz] at HS9 ⊢;clear hwz y1 yz yl HSR HSF HNF HQVF HQEF HQSF x1F xzF xlF hbsF hqbF;obtain ⟨uz, vz, hNz⟩ := (za HS9).net;have hNz : Yw _ _ _ uz vz _ := hNz;obtain ⟨a1, cap1, hu1, hpz⟩ := UQ hNz.2.1;obtain ⟨a2, cap2, hu2, hjz⟩ := qn hNz.2.2;subst hu1;subst hu2;have HNZ : Hid (zE base wz (.agg #[.slice a1 n.pieces.length cap1, .slice a2 (n.joints ++ [XD p 1]).length cap2]) ⟨n.pieces, n.joints ++ [XD p 1]⟩) := ⟨a1, a2, cap1, cap2, rfl, hpz, hjz⟩;have z0 := hNz.1.2.1 0 _ rfl;have z1 := hNz.1.2.1 1 _ rfl;have zl := hNz.1.1;have r0 := (za HS9).rb.2.1 0 _ rfl;have r1 := (za HS9).rb.2.1 1 _ rfl;have rz := (za HS9).rb.2.2;have rl := (za HS9).rb.1
   have hRX : ¬ R = X := by omega
   have hXR : ¬ X = R := by omega
   clear hNz hpz hjz;dsimp only at z0 z1;obtain ⟨m2, hm2⟩ : ∃ m2, (n.joints ++ [XD p 1]).length = m2 := ⟨_, rfl⟩;rw [hm2] at z1 HNZ;have HM2 := zd hm2;clear hm2;have hbf := ((za HS9).rb.setI (i := 0) (by simp) (.slice a1 n.pieces.length cap1)).setI (i := 1) (by simp) (.slice a2 m2 cap2);have f0 := hbf.2.1 0 _ rfl;have f1 := hbf.2.1 1 _ rfl;have HF := zd (And.intro f0 f1);clear hbf f0 f1;go_wp2_with fail;obtain ⟨f0, f1⟩ := za HF
   have hres : yV bs c = (⟨n.pieces, n.joints ++ [XD p 1]⟩, cc) := by
    have h1 : Zn bs (1 + k0) 0 ⟨n3.pieces, [XD 0 0]⟩ c3 = (p, n, cc) := (za HGO).symm;unfold yV;rw [za HST1, za HK0, show (1 + (k0 : Int)).toNat = 1 + k0 by omega];dsimp only;rw [h1]
   refine bodyPost_ret (v := .agg #[.slice a1 n.pieces.length cap1, .slice a2 m2 cap2]) (by simp [results, Tryz.results45, go_sem, f0, f1]) rfl ?_;rw [hres];refine ⟨_, rfl, ?_, ?_, ?_⟩
   ·exact ((za HNZ).keeps ((Zx _ (p := ⟨R, 0, none⟩) (show R < base by omega) _).trans (Zx _ (p := ⟨R, 1, none⟩) (show R < base by omega) _))).mono (by rw [hR]; omega)
   ·exact (za HS9).cur.of_below (U := C + 1) bw0 (by omega)
   ·exact ((but_but (za HB0) (za HS9).but (show w.heap.size <= X by omega) (by omega)).trans (zY _ (Or.inr (show w.heap.size <= R by omega)) _)).trans (zY _ (Or.inr (show w.heap.size <= R by omega)) _)
end Go.Proofs.YthdioeofdofleaaGreatDoor
