import Derived.Test.YtjacbppeebnjfaaGreatMRo
set_option linter.unusedSimpArgs false
namespace Go.Proofs.YtjacbppeebnjfaaGreat
open Go.RowKit

theorem box_news {W : World} {N : Nat} {vs : List Value} (h : Boxed W N vs) : ∀ j u, vs[j]? = some u → W.cell? ((⟨N, 0, none⟩ : Addr).add j) = some u := by
 intro j u hj
 have hadd : (⟨N, 0, none⟩ : Addr).add j = ⟨N, j, none⟩ := by unfold Addr.add; split <;> simp_all
 rw [hadd]
 exact h.2.1 j u hj
theorem jv_one (j : Jt) (a : Option Addr) (m c : Nat) : ∀ u ∈ jvF (j, .slice a m c), u.oneCell' = true := by
 intro u hu
 simp [jvF] at hu
 rcases hu with rfl | rfl | rfl <;> rfl
theorem ed_lit (W : World) (base : Nat) (hb : base ≤ W.heap.size) (es : List Ed) (hl : es.length ≤ 1000) : EdRow (W.alloc (.cells (es.flatMap edF).toArray 141)) base (.slice (some ⟨W.heap.size, 0, none⟩) es.length es.length) es := by
 have hfl := flat_len edF_len es
 exact ⟨hfl, Or.inr ⟨W.heap.size, es.length, (es.flatMap edF).toArray, rfl, hb, heap_alloc_new W _, Nat.le_refl _, by unfold maxLen; omega, by simpa using hfl, by rw [List.toList_toArray, ← hfl, List.take_length]⟩⟩
theorem NetP.addJoint {w w2 : World} {X base : Nat} {u v ev : Value} {n : Nt} {j : Jt} {qs : List (Jt × Value)} (h : NetP w X base u v n) (hX : X < base) {v' : Value} (hg : w.grownBy w2 v.ownBlock) (hqs : qs.map Prod.fst = n.joints) (hv : JvRow w base v qs) (hqe : ∀ q ∈ qs, EdRow w base q.2 q.1.ends) (hev : EdRow w base ev j.ends) (hown : JvRow w2 base v' (qs ++ [(j, ev)])) :
  NetP (w2.setCell ⟨X, 1, none⟩ v') X base u v' ⟨n.pieces, n.joints ++ [j]⟩ := by
 have hb := h.1.grownE hg (fun hc => by have := (hv.lt _ hc).1; omega)
 have hp : PcRow w2 base u n.pieces := h.2.1.kept hg (fun k hk hc => Row.apart h.2.1 hv (by decide) k hk hc)
 have hed : ∀ {x : Value} {es : List Ed}, EdRow w base x es → EdRow (w2.setCell ⟨X, 1, none⟩ v') base x es := fun hx => (hx.kept hg (fun k hk hc => Row.apart hx hv (by decide) k hk hc)).setCell (p := ⟨X, 1, none⟩) hX v'
 refine ⟨hb.setI (i := 1) (by simp) v', hp.setCell (p := ⟨X, 1, none⟩) hX v', qs ++ [(j, ev)], by simp [hqs], hown.setCell (p := ⟨X, 1, none⟩) hX v', fun q hq => ?_⟩
 rcases List.mem_append.1 hq with hq | hq
 ·exact hed (hqe q hq)
 ·simp at hq
  subst hq
  exact hed hev
theorem pieceC_at (bs : List Int) (c : Cu) (n : Nt) : (pieceC bs c n).2.at_ ≤ c.at_ + 2 := wideC_at bs c 300
theorem pieceC_len (bs : List Int) (c : Cu) (n : Nt) : (pieceC bs c n).1.pieces.length = n.pieces.length + 1 := by simp [pieceC]
def endJ (p s : Nat) : Jt := ⟨1, ⟨#[]⟩, [⟨p, s⟩]⟩
def swA (k p a b : Nat) : Jt := ⟨3, nameC (100 + k), [⟨p, 1⟩, ⟨a, 0⟩, ⟨b, 0⟩]⟩
def swB (k q a b : Nat) : Jt := ⟨3, nameC (100 + k), [⟨q, 0⟩, ⟨a, 1⟩, ⟨b, 1⟩]⟩
def three (bs : List Int) (c : Cu) (n : Nt) : Nt × Cu := pieceC bs (pieceC bs (pieceC bs c n).2 (pieceC bs c n).1).2 (pieceC bs (pieceC bs c n).2 (pieceC bs c n).1).1
def stationGo (bs : List Int) : Nat → Nat → Nt → Cu → Nat × Nt × Cu
 | 0, p, n, c => (p, n, c)
 | k + 1, p, n, c => stationGo bs k (n.pieces.length + 2) ⟨(three bs c n).1.pieces, (n.joints ++ [swA n.joints.length p n.pieces.length (n.pieces.length + 1)]) ++ [swB (n.joints.length + 1) (n.pieces.length + 2) n.pieces.length (n.pieces.length + 1)]⟩ (three bs c n).2
def station1 (bs : List Int) (c : Cu) : Nt × Cu := (⟨(pieceC bs (pickC bs c 3).2 ⟨[], []⟩).1.pieces, [endJ 0 0]⟩, (pieceC bs (pickC bs c 3).2 ⟨[], []⟩).2)
def stationC (bs : List Int) (c : Cu) : Nt × Cu :=
 let r := stationGo bs (1 + (pickC bs c 3).1).toNat 0 (station1 bs c).1 (station1 bs c).2
 (⟨r.2.1.pieces, r.2.1.joints ++ [endJ r.1 1]⟩, r.2.2)
theorem three_at (bs : List Int) (c : Cu) (n : Nt) : (three bs c n).2.at_ ≤ c.at_ + 6 := by
 unfold three
 have h1 := pieceC_at bs c n
 have h2 := pieceC_at bs (pieceC bs c n).2 (pieceC bs c n).1
 have h3 := pieceC_at bs (pieceC bs (pieceC bs c n).2 (pieceC bs c n).1).2 (pieceC bs (pieceC bs c n).2 (pieceC bs c n).1).1
 omega
theorem stationGo_at (bs : List Int) : ∀ (k p : Nat) (n : Nt) (c : Cu), (stationGo bs k p n c).2.2.at_ ≤ c.at_ + 6 * k := by
 intro k
 induction k with
 | zero => intro p n c; simp [stationGo]
 | succ k ih =>
  intro p n c
  unfold stationGo
  have h1 := ih (n.pieces.length + 2) ⟨(three bs c n).1.pieces, (n.joints ++ [swA n.joints.length p n.pieces.length (n.pieces.length + 1)]) ++ [swB (n.joints.length + 1) (n.pieces.length + 2) n.pieces.length (n.pieces.length + 1)]⟩ (three bs c n).2
  have h2 := three_at bs c n
  omega
theorem stationC_at (bs : List Int) (c : Cu) : (stationC bs c).2.at_ ≤ c.at_ + 30 := by
 have h1 := stationGo_at bs (1 + (pickC bs c 3).1).toNat 0 (station1 bs c).1 (station1 bs c).2
 have h2 := pickC_at bs c 3
 have h3 := pickC_in bs c 3
 have h4 := pieceC_at bs (pickC bs c 3).2 ⟨[], []⟩
 have h5 : (station1 bs c).2 = (pieceC bs (pickC bs c 3).2 ⟨[], []⟩).2 := rfl
 rw [h5] at h1
 show (stationGo bs (1 + (pickC bs c 3).1).toNat 0 (station1 bs c).1 (station1 bs c).2).2.2.at_ ≤ _
 rw [h5]
 omega

structure StaAt (C R X P base : Nat) (bs : List Int) (w0 : World) (c : Cu) (n : Nt) (w : World) : Prop where
 cur : CurAt w C bs c
 net : NetIn w X base n
 pb : Boxed w P [.pointer (some ⟨C, 0, none⟩)]
 rb : Boxed w R [.slice none 0 0, .slice none 0 0]
 but : But (fun k => k = C ∨ k = X) base w0 w
 base_ : base ≤ w.heap.size
theorem NetAt.mono {L L' : Nat} {w : World} {v : Value} {n : Nt} (h : NetAt L w v n) (hL : L' ≤ L) : NetAt L' w v n := by
 obtain ⟨a, c, ca, cc, hv, hp, hj⟩ := h
 exact ⟨a, c, ca, cc, hv, hp.mono hL, hj.mono hL⟩
theorem but_but {w wb wz : World} {C X base : Nat} (hb : Below w.heap.size w wb) (hB : But (fun k => k = C ∨ k = X) base wb wz) (hX : w.heap.size ≤ X) (hbase : w.heap.size ≤ base) : But (fun k => k = C) w.heap.size w wz :=
 ⟨hB.os.trans hb.os, hB.tape.trans hb.tape, hB.output.trans hb.output, Nat.le_trans hb.size hB.size, fun k hk hS => (hB.block k (by omega) (fun e => by rcases e with e | e; exact hS e; omega)).trans (hb.block k hk)⟩
theorem StaAt.below {C R X P base : Nat} {bs : List Int} {w0 w w' : World} {c : Cu} {n : Nt} (h : StaAt C R X P base bs w0 c n w) (hb : Below w.heap.size w w') : StaAt C R X P base bs w0 c n w' :=
 ⟨h.cur.below hb, h.net.below hb, h.pb.below hb, h.rb.below hb, h.but.trans (but_below hb h.base_), Nat.le_trans h.base_ hb.size⟩
theorem StaAt.step {C R X P base : Nat} {bs : List Int} {w0 w w' : World} {c c' : Cu} {n n' : Nt} (h : StaAt C R X P base bs w0 c n w) (hc : CurAt w' C bs c') (hn : NetIn w' X base n') (hb : But (fun k => k = C ∨ k = X) base w w') (hP : P < base) (hR : R < base) (hPC : P ≠ C ∧ P ≠ X) (hRC : R ≠ C ∧ R ≠ X) : StaAt C R X P base bs w0 c' n' w' :=
 ⟨hc, hn, h.pb.but hb hP (fun e => by rcases e with e | e; exact hPC.1 e; exact hPC.2 e), h.rb.but hb hR (fun e => by rcases e with e | e; exact hRC.1 e; exact hRC.2 e), h.but.trans hb, Nat.le_trans h.base_ hb.size⟩
theorem StaAt.joint {C R X P base : Nat} {bs : List Int} {w0 w wA w2 : World} {c : Cu} {n : Nt} {u v ev v' : Value} {j : Jt} {qs : List (Jt × Value)} (h : StaAt C R X P base bs w0 c n w) (hN : NetP w X base u v n) (hqs : qs.map Prod.fst = n.joints) (hv : JvRow w base v qs) (hqe : ∀ q ∈ qs, EdRow w base q.2 q.1.ends)
  (hb : Below w.heap.size w wA) (hev : EdRow wA base ev j.ends) (hg : wA.grownBy w2 v.ownBlock) (hown : JvRow w2 base v' (qs ++ [(j, ev)])) (hCX : C < X) (hX : X < base) (hP : P < base) (hR : R < base) (hPC : P ≠ C ∧ P ≠ X) (hRC : R ≠ C ∧ R ≠ X) : StaAt C R X P base bs w0 c ⟨n.pieces, n.joints ++ [j]⟩ (w2.setCell ⟨X, 1, none⟩ v') := by
 have hne : ∀ k, v.ownBlock = some k → base ≤ k := fun k hk => (hv.lt k hk).1
 have hA := h.below hb
 have hBU : But (fun k => k = C ∨ k = X) base w (w2.setCell ⟨X, 1, none⟩ v') := ((but_below hb h.base_).grown hg hA.base_ hne).trans (but_setCell _ (Or.inl (Or.inr rfl)) _)
 have hBC : Below (C + 1) wA (w2.setCell ⟨X, 1, none⟩ v') := Below.setCell (Below.grown (Below.refl (C + 1) wA) hg (by have := hA.base_; omega) (fun k hk => by have := hne k hk; omega)) (show C + 1 ≤ X by omega) _
 exact h.step (hA.cur.of_below hBC (by omega)) ((hN.below hb).addJoint hX hg hqs (hv.below hb) (fun q hq => (hqe q hq).below hb) hev hown).in_ hBU hP hR hPC hRC

set_option maxRecDepth 100000 in
set_option maxHeartbeats 4000000 in
theorem l5pieces_any (C : Nat) (w : World) : Calls Tryz.prog 67 #[.pointer (some ⟨C, 0, none⟩)] w fun e w' => e = .returned (.pointer (some ⟨w.heap.size, 0, none⟩)) ∧ w' = w.alloc (.cells #[.pointer (some ⟨C, 0, none⟩)] 189) := by
 go_enter Tryz.func67, Tryz.ntmps67
 go_wp2_with fail
 go_ret
 exact ⟨rfl, rfl⟩

def RetNet (C : Nat) (bs : List Int) (r : Nt × Cu) (w : World) (e : Ending) (w' : World) : Prop := ∃ v, e = .returned v ∧ NetAt w.heap.size w' v r.1 ∧ CurAt w' C bs r.2 ∧ But (fun k => k = C) w.heap.size w w'

set_option maxRecDepth 100000 in
set_option maxHeartbeats 8000000 in
theorem station_any (C : Nat) (bs : List Int) (c : Cu) (w : World) (hcu : CurAt w C bs c) (hbs : BytesIn bs) (ha : c.at_ ≤ 10000000) :
  Calls Tryz.prog 29 #[.pointer (some ⟨C, 0, none⟩)] w (RetNet C bs (stationC bs c) w) := by
 have hCl := hcu.lt
 have HCU := hide hcu
 have HPI := hide (pickC_in bs c 3)
 have HPA := hide (pickC_at bs c 3)
 clear hcu
 obtain ⟨i1, hj1, hy0, hy1, hy2⟩ := info_parts info_Joint
 go_enter Tryz.func29, Tryz.ntmps29
 go_wp2_with fail
 refine (l5pieces_any C _).mono ?_
 rintro e w1 ⟨rfl, rfl⟩
 go_wp2_with fail
 have hpi := unhide HPI
 refine (pick_any C bs c 3 _ ((unhide HCU).below bw0) hbs (by omega) (by omega)).mono ?_
 rintro e w2 ⟨rfl, hcu2, ho2⟩
 obtain ⟨k0, hk0⟩ : ∃ k0 : Nat, (pickC bs c 3).1 = k0 := ⟨(pickC bs c 3).1.toNat, by omega⟩
 rw [hk0] at hpi ⊢
 have HK0 := hide hk0
 clear hk0
 obtain ⟨R, hR⟩ : ∃ R, w.heap.size = R := ⟨_, rfl⟩
 have hoW : w2.heap.size = w2.heap.size := rfl
 have hwk : IntKind.i64.wrap (1 + (k0 : Int)) = ((1 + k0 : Nat) : Int) := (wrap_small (by omega) (by omega)).trans (by omega)
 have hs2 := ho2.size
 simp only [World.size_alloc] at hs2
 obtain ⟨wb, hwb⟩ : ∃ wb, (((w.alloc (.cells #[.slice none 0 0, .slice none 0 0] 26)).alloc (.cells #[.slice none 0 0, .slice none 0 0] 26)).alloc (.cells #[.pointer (some ⟨C, 0, none⟩)] 189)) = wb := ⟨_, rfl⟩
 have hbB : Below w.heap.size w wb := by rw [← hwb]; exact bw0
 have hbR : Boxed wb w.heap.size [.slice none 0 0, .slice none 0 0] := by rw [← hwb]; exact ((boxed_alloc w #[.slice none 0 0, .slice none 0 0] 26).alloc _).alloc _
 have hbX : Boxed wb (w.heap.size + 1) [.slice none 0 0, .slice none 0 0] := by rw [← hwb]; exact (boxedN _ _ _ (by simp)).alloc _
 have hbP : Boxed wb (w.heap.size + 1 + 1) [.pointer (some ⟨C, 0, none⟩)] := by rw [← hwb]; exact boxedN _ _ _ (by simp)
 have hbS : wb.heap.size = w.heap.size + 3 := by rw [← hwb]; simp
 rw [hwb] at ho2
 have hs2' := ho2.size
 rw [hR] at hbR hbX hbP hbS hCl hs2 ⊢
 have HS2 : Hid (StaAt C R (R + 1) (R + 1 + 1) (R + 3) bs wb (pickC bs c 3).2 ⟨[], []⟩ w2) := ⟨hcu2, ⟨.slice none 0 0, .slice none 0 0, hbX.onlyS ho2 (show ¬ R + 1 = C by omega), Row.nil _ _ _ _ _, ⟨[], rfl, Row.nil _ _ _ _ _, fun q hq => by cases hq⟩⟩, hbP.onlyS ho2 (show ¬ R + 1 + 1 = C by omega), hbR.onlyS ho2 (show ¬ R = C by omega), but_only ho2 (fun k _ h => Or.inl h) (by omega), by omega⟩
 have HB0 := hide hbB
 have HO2 := hide ho2
 clear hwb hbB hbR hbX hbP hcu2 ho2
 have hpa := unhide HPA
 obtain ⟨base, hbase⟩ : ∃ base, R + 3 = base := ⟨_, rfl⟩
 obtain ⟨P, hP⟩ : ∃ P, R + 1 + 1 = P := ⟨_, rfl⟩
 obtain ⟨X, hX⟩ : ∃ X, R + 1 = X := ⟨_, rfl⟩
 rw [hbase, hP, hX] at HS2
 rw [hP, hX]
 have HEQ := hide (And.intro hbase (And.intro hP hX))
 have hord : C < R ∧ R < X ∧ X < P ∧ P < base := by omega
 clear hbase hP hX
 go_wp2_with fail
 have h2 := unhide HS2
 refine (piece_any C P X base bs (pickC bs c 3).2 ⟨[], []⟩ _ h2.cur hbs (by omega) h2.pb h2.net (by simp) (by omega) (by omega) (by omega) (by omega) (by omega) h2.base_).mono ?_
 clear h2
 rintro e w3 ⟨rfl, hcu3, hn3, hbu3⟩
 have HS3 := hide ((unhide HS2).step hcu3 hn3 hbu3 (by omega) (by omega) ⟨by omega, by omega⟩ ⟨by omega, by omega⟩)
 clear hcu3 hn3 hbu3
 obtain ⟨n3, hn3⟩ : ∃ n3, (pieceC bs (pickC bs c 3).2 ⟨[], []⟩).1 = n3 := ⟨_, rfl⟩
 obtain ⟨c3, hc3⟩ : ∃ c3, (pieceC bs (pickC bs c 3).2 ⟨[], []⟩).2 = c3 := ⟨_, rfl⟩
 have hl3 : n3.pieces.length = 1 := by rw [← hn3]; rfl
 have hj3 : n3.joints = [] := by rw [← hn3]; rfl
 have ha3 : c3.at_ ≤ c.at_ + 4 := by rw [← hc3]; have := pieceC_at bs (pickC bs c 3).2 ⟨[], []⟩; omega
 rw [hn3, hc3] at HS3
 have HST1 : Hid (station1 bs c = (⟨n3.pieces, [endJ 0 0]⟩, c3)) := by unfold Hid station1; rw [hn3, hc3]
 have HL3 := hide (And.intro hl3 hj3)
 clear hn3 hc3 hj3 hl3

 obtain ⟨u3, v3, hN3⟩ := (unhide HS3).net
 have hN3 : NetP _ _ _ u3 v3 n3 := hN3
 obtain ⟨qs3, hqs3, hqv3, hqe3⟩ := hN3.2.2
 obtain ⟨va3, vc3, hve3, _⟩ := hqv3.shape jvF_len
 subst hve3
 have HQL3 : Hid (qs3.length = n3.joints.length) := by unfold Hid; rw [← hqs3, List.length_map]
 have hqb3 : qs3.length ≤ 1000 := by rw [unhide HQL3]; rw [(unhide HL3).2]; simp
 have x13 := hN3.1.2.1 1 _ rfl
 have xz3 := hN3.1.2.2
 have xl3 := hN3.1.1
 have hbs3 := (unhide HS3).base_
 have HN3 := hide hN3
 have HQV3 := hide hqv3
 have HQE3 := hide hqe3
 have HQS3 := hide hqs3
 clear hN3 hqv3 hqe3 hqs3

 go_wp2_with (at_builtin; refine wpList_append_own _ rfl (.tmp 18) (.tmp 23) 24 rfl base 56 i1 (.agg #[.int .i64 0, .string ⟨#[]⟩, .slice none 0 0]) 3 48 Tryz.underlying24 hj1 hy0 hy1 hy2 rfl (by decide) _ _ _ rfl ((unhide HQV3).below bw0) ⟨w3.heap.size + 1, 0, none⟩ 1 1 (jvF (endJ 0 0, .slice (some ⟨w3.heap.size, 0, none⟩) 1 1)) rfl rfl ?c1 (jv_one _ _ _ _) ?c2 ?c3 ?c4 ?_)
 case c1 => (first | exact fun _ _ h => h | exact box_news (boxedN _ _ _ (by first | rfl | simp)))
 case c2 => unfold maxLen; omega
 case c3 => omega
 case c4 => (first | omega | (simp; omega))
 intro v' w9 hown9 hgrow9 _
 have hrow9 : JvRow w9 base v' (qs3 ++ [(endJ 0 0, .slice (some ⟨w3.heap.size, 0, none⟩) 1 1)]) := Row.snoc (f := jvF) hown9
 obtain ⟨va9, vc9, hve9, _⟩ := hrow9.shape jvF_len
 rw [List.length_append, List.length_singleton] at hve9
 subst hve9
 have hE9 : EdRow (w3.alloc (.cells #[.int .i64 0, .int .i64 0] 141)) base (.slice (some ⟨w3.heap.size, 0, none⟩) 1 1) (endJ 0 0).ends := ed_lit w3 base (by omega) [⟨(0 : Nat), (0 : Nat)⟩] (by simp)
 have HS9 := hide ((unhide HS3).joint (unhide HN3) (unhide HQS3) (unhide HQV3) (unhide HQE3) bw0 (hE9.below bw0) hgrow9 hrow9 (by omega) (by omega) (by omega) (by omega) ⟨by omega, by omega⟩ ⟨by omega, by omega⟩)
 have hX9 := ((((unhide HN3).1.alloc _).alloc _).grownE hgrow9 (fun hc => by have := ((unhide HQV3).lt _ hc).1; omega))
 have y1 := hX9.2.1 1 _ rfl
 have yz := hX9.2.2
 have yl := hX9.1
 clear hown9 hgrow9 hrow9 hE9 hX9
 go_wp2_with fail
 have HS4 : Hid (StaAt C R X P base bs wb c3 ⟨n3.pieces, [endJ 0 0]⟩ (w9.setCell ⟨X, 1, none⟩ (.slice va9 (qs3.length + 1) vc9))) := by
  have := unhide HS9
  rw [(unhide HL3).2] at this
  exact this
 clear HS9 y1 yz yl
 go_loopw [5, 6] (fun z y wr => ∃ (k p : Nat) (n : Nt) (cc : Cu), z = .int .i64 k ∧ y = .int .i64 p ∧ k ≤ 3 ∧ n.pieces.length + 3 * k ≤ 10 ∧ n.joints.length + 2 * k ≤ 7 ∧ cc.at_ + 6 * k ≤ c.at_ + 22 ∧ Hid (stationGo bs k p n cc = stationGo bs (1 + k0) 0 ⟨n3.pieces, [endJ 0 0]⟩ c3) ∧ Hid (StaAt C R X P base bs wb cc n wr)) (fun z _ _ => (intOf z).toNat)
 case atStart => exact ⟨1 + k0, 0, ⟨n3.pieces, [endJ 0 0]⟩, c3, by simp, rfl, by omega, by have := (unhide HL3).1; show n3.pieces.length + 3 * (1 + k0) ≤ 10; omega, by show 1 + 2 * (1 + k0) ≤ 7; omega, by omega, rfl, HS4⟩
 case round =>
  clear HS4 HS2 HS3 HN3 HQV3 HQE3 HQS3 x13 xz3 xl3 hbs3 hqb3
  obtain ⟨k, p, n, cc, rfl, rfl, hk3, hlp, hlj, hat, HGO, HSR⟩ := hrel
  by_cases hk : 0 < k
  ·obtain ⟨k', rfl⟩ : ∃ k', k = k' + 1 := ⟨k - 1, by omega⟩
   have hkp : (0 : Int) < ((k' + 1 : Nat) : Int) := by omega
   have hkw : IntKind.i64.wrap (((k' + 1 : Nat) : Int) - 1) = (k' : Int) := (wrap_small (by omega) (by omega)).trans (by omega)
   go_wp2_with fail
   have h4 := unhide HSR
   refine (piece_any C P X base bs cc n _ h4.cur hbs (by omega) h4.pb h4.net (by omega) (by omega) (by omega) (by omega) (by omega) (by omega) h4.base_).mono ?_
   clear h4
   rintro e wA ⟨rfl, hcuA, hnA, hbuA⟩
   have HSA := hide ((unhide HSR).step hcuA hnA hbuA (by omega) (by omega) ⟨by omega, by omega⟩ ⟨by omega, by omega⟩)
   clear hcuA hnA hbuA
   obtain ⟨nA, hnA⟩ : ∃ nA, (pieceC bs cc n).1 = nA := ⟨_, rfl⟩
   obtain ⟨cA, hcA⟩ : ∃ cA, (pieceC bs cc n).2 = cA := ⟨_, rfl⟩
   have HLA : Hid (nA.pieces.length = n.pieces.length + 1 ∧ nA.joints = n.joints) := by rw [← hnA]; exact ⟨pieceC_len _ _ _, rfl⟩
   have haA : cA.at_ ≤ cc.at_ + 2 := by rw [← hcA]; exact pieceC_at _ _ _
   rw [hnA, hcA] at HSA
   obtain ⟨a, hla⟩ : ∃ a, n.pieces.length = a := ⟨_, rfl⟩
   rw [hla] at hlp ⊢
   have HA := hide hla
   have HPA := hide (And.intro hnA hcA)
   clear hla hnA hcA
   go_wp2_with fail
   have h4 := unhide HSA
   refine (piece_any C P X base bs cA nA _ h4.cur hbs (by omega) h4.pb h4.net (by have h5 := (unhide HLA).1; have h6 := unhide HA; omega) (by omega) (by omega) (by omega) (by omega) (by omega) h4.base_).mono ?_
   clear h4
   rintro e wB ⟨rfl, hcuB, hnB, hbuB⟩
   have HSB := hide ((unhide HSA).step hcuB hnB hbuB (by omega) (by omega) ⟨by omega, by omega⟩ ⟨by omega, by omega⟩)
   clear hcuB hnB hbuB
   obtain ⟨nB, hnB⟩ : ∃ nB, (pieceC bs cA nA).1 = nB := ⟨_, rfl⟩
   obtain ⟨cB, hcB⟩ : ∃ cB, (pieceC bs cA nA).2 = cB := ⟨_, rfl⟩
   have HLB : Hid (nB.pieces.length = nA.pieces.length + 1 ∧ nB.joints = nA.joints) := by rw [← hnB]; exact ⟨pieceC_len _ _ _, rfl⟩
   have haB : cB.at_ ≤ cA.at_ + 2 := by rw [← hcB]; exact pieceC_at _ _ _
   rw [hnB, hcB] at HSB
   obtain ⟨b, hlb⟩ : ∃ b, nA.pieces.length = b := ⟨_, rfl⟩
   rw [hlb]
   have HB := hide hlb
   have HPB := hide (And.intro hnB hcB)
   clear hlb hnB hcB
   go_wp2_with fail
   have h4 := unhide HSB
   refine (piece_any C P X base bs cB nB _ h4.cur hbs (by omega) h4.pb h4.net (by have h5 := (unhide HLA).1; have h6 := unhide HA; have h7 := (unhide HLB).1; omega) (by omega) (by omega) (by omega) (by omega) (by omega) h4.base_).mono ?_
   clear h4
   rintro e wC ⟨rfl, hcuC, hnC, hbuC⟩
   have HSC := hide ((unhide HSB).step hcuC hnC hbuC (by omega) (by omega) ⟨by omega, by omega⟩ ⟨by omega, by omega⟩)
   clear hcuC hnC hbuC
   obtain ⟨nC, hnC⟩ : ∃ nC, (pieceC bs cB nB).1 = nC := ⟨_, rfl⟩
   obtain ⟨cC, hcC⟩ : ∃ cC, (pieceC bs cB nB).2 = cC := ⟨_, rfl⟩
   have HLC : Hid (nC.pieces.length = nB.pieces.length + 1 ∧ nC.joints = nB.joints) := by rw [← hnC]; exact ⟨pieceC_len _ _ _, rfl⟩
   have haC : cC.at_ ≤ cB.at_ + 2 := by rw [← hcC]; exact pieceC_at _ _ _
   rw [hnC, hcC] at HSC
   obtain ⟨q, hlq⟩ : ∃ q, nB.pieces.length = q := ⟨_, rfl⟩
   rw [hlq]
   have HQ := hide hlq
   have HTH : Hid (three bs cc n = (nC, cC)) := by
    unfold Hid three
    rw [(unhide HPA).1, (unhide HPA).2, (unhide HPB).1, (unhide HPB).2]
    exact Prod.ext hnC hcC
   have HJC : Hid (nC.joints = n.joints) := (unhide HLC).2.trans ((unhide HLB).2.trans (unhide HLA).2)
   have HABQ : Hid (n.pieces.length = a ∧ b = a + 1 ∧ q = a + 2 ∧ nC.pieces.length = a + 3) := by
    have h1 := unhide HA
    have h2 := (unhide HLA).1
    have h3 := unhide HB
    have h4 := (unhide HLB).1
    have h5 := unhide HQ
    have h6 := (unhide HLC).1
    exact ⟨h1, by omega, by omega, by omega⟩
   clear hnC hcC hlq HPA HPB HLA HLB HLC HA HB HQ HSA HSB HSR
   go_upto_region 11 with fail
   go_cut [5] (fun z wx => z = .int .i64 ((k' + 1 : Nat) : Int) ∧ Hid (StaAt C R X P base bs wb cC ⟨nC.pieces, n.joints ++ [swA n.joints.length p a b]⟩ wx))
   case first =>
    obtain ⟨uC, vC, hNC⟩ := (unhide HSC).net
    have hNC : NetP _ _ _ uC vC nC := hNC
    obtain ⟨qsC, hqsC, hqvC, hqeC⟩ := hNC.2.2
    obtain ⟨vaC, vcC, hveC, _⟩ := hqvC.shape jvF_len
    subst hveC
    have HQLC : Hid (qsC.length = nC.joints.length) := by unfold Hid; rw [← hqsC, List.length_map]
    have hqbC : qsC.length ≤ 1000 := by rw [unhide HQLC]; rw [unhide HJC]; omega
    have x1C := hNC.1.2.1 1 _ rfl
    have xzC := hNC.1.2.2
    have xlC := hNC.1.1
    have hbsC := (unhide HSC).base_
    have HNC := hide hNC
    have HQVC := hide hqvC
    have HQEC := hide hqeC
    have HQSC := hide hqsC
    clear hNC hqvC hqeC hqsC

    have hwqC : IntKind.i64.wrap (100 + (qsC.length : Int)) = ((100 + qsC.length : Nat) : Int) := (wrap_small (by omega) (by omega)).trans (by omega)
    refine wp_region_last (S := fun w' => w'.cell? ⟨X, 1, none⟩ = some (.slice vaC qsC.length vcC)) 19 (by kernel_rfl) ?_ (fun hHeld => ?_)
    ·simpa using x1C
    refine tkL 0 [1, 17, 18, 19] ?_
    refine tkL 1 [17, 18, 19] ?_
    refine tkL 2 [7, 15, 16, 17, 18, 19] ?_
    refine tkL 3 [4, 5, 6, 7, 15, 16, 17, 18, 19] ?_
    refine tkL 4 [5, 6, 7, 15, 16, 17, 18, 19] ?_
    refine tkL 5 [6, 7, 15, 16, 17, 18, 19] ?_
    refine tkL 6 [7, 15, 16, 17, 18, 19] ?_
    refine tkL 8 [9, 14, 15, 16, 17, 18, 19] ?_
    refine tkL 9 [14, 15, 16, 17, 18, 19] ?_
    refine tkL 10 [11, 14, 15, 16, 17, 18, 19] ?_
    refine tkL 11 [14, 15, 16, 17, 18, 19] ?_
    refine tkL 12 [13, 14, 15, 16, 17, 18, 19] ?_
    refine tkL 13 [14, 15, 16, 17, 18, 19] ?_
    refine wpAnyL_ready (rs := [7, 14]) (by kernel_rfl) (by simp) ?_
    refine (AllReadyL.cons rfl (fun K hK => ?_) (AllReadyL.cons rfl (fun K hK => ?_) AllReadyL.nil))
    ·go_simp
     refine (name_any _ (100 + qsC.length) _ (by omega)).mono ?_
     rintro e wn ⟨rfl, hbn⟩
     dsimp only
     have hB : Below wC.heap.size wC wn := below_then bw0 hbn
     have hNn := (unhide HNC).below hB
     have hHeld := hNn.1.2.1 1 _ rfl
     have xln := hNn.1.1
     have hsn := hB.size
     clear hNn
     refine hK.out _ _ (fun _ => hHeld) (fun _ => ?_)
     clear hK K
     (try simp only [sA])
     refine wpAnyL_ready (rs := [14]) (by kernel_rfl) (by simp) ?_
     refine (AllReadyL.cons rfl (fun K hK => ?_) AllReadyL.nil)
     go_simp
     have hE : EdRow (wn.alloc (.cells #[.int .i64 p, .int .i64 1, .int .i64 a, .int .i64 0, .int .i64 b, .int .i64 0] 141)) base (.slice (some ⟨wn.heap.size, 0, none⟩) 3 3) [⟨p, 1⟩, ⟨a, 0⟩, ⟨b, 0⟩] := ed_lit wn base (show base ≤ wn.heap.size by omega) [⟨p, 1⟩, ⟨a, 0⟩, ⟨b, 0⟩] (by simp)
     have hB : Below wC.heap.size wC (wn.alloc (.cells #[.int .i64 p, .int .i64 1, .int .i64 a, .int .i64 0, .int .i64 b, .int .i64 0] 141)) := below_then hB bw0
     have hNn := (unhide HNC).below hB
     have hHeld := hNn.1.2.1 1 _ rfl
     clear hNn
     refine hK.out _ _ (fun _ => hHeld) (fun _ => ?_)
     clear hK K
     (try simp only [sA])
     refine tkL 15 [16, 17, 18, 19] ?_
     refine wpAnyL_ready (rs := [16]) (by kernel_rfl) (by simp) ?_
     refine (AllReadyL.cons rfl (fun K hK => ?_) AllReadyL.nil)
     go_simp
     have hE := hE.below (bw0 : Below _ _ ((wn.alloc (.cells #[.int .i64 p, .int .i64 1, .int .i64 a, .int .i64 0, .int .i64 b, .int .i64 0] 141)).alloc (.cells #[.int .i64 3, .string (nameC (100 + qsC.length)), .slice (some ⟨wn.heap.size, 0, none⟩) 3 3] 56)))
     have hB : Below wC.heap.size wC ((wn.alloc (.cells #[.int .i64 p, .int .i64 1, .int .i64 a, .int .i64 0, .int .i64 b, .int .i64 0] 141)).alloc (.cells #[.int .i64 3, .string (nameC (100 + qsC.length)), .slice (some ⟨wn.heap.size, 0, none⟩) 3 3] 56)) := below_then hB bw0
     have hNn := (unhide HNC).below hB
     have hHeld := hNn.1.2.1 1 _ rfl
     have hsn2 := hB.size
     clear hNn
     refine hK.out _ _ (fun _ => hHeld) (fun _ => ?_)
     clear hK K
     (try simp only [sA])
     refine wpAnyL_ready (rs := [17]) (by kernel_rfl) (by simp) ?_
     refine (AllReadyL.cons rfl (fun K hK => ?_) AllReadyL.nil)
     refine step_append_lies _ rfl (.tmp 37) (.tmp 52) 24 rfl base 56 i1 (.agg #[.int .i64 0, .string ⟨#[]⟩, .slice none 0 0]) 3 48 Tryz.underlying24 hj1 hy0 hy1 hy2 rfl (by decide) (.slice vaC qsC.length vcC) qsC.length (qsC.flatMap jvF) (by simp [Act.eval]) ((unhide HQVC).below hB) _ 1 1 (jvF (swA qsC.length p a b, .slice (some ⟨wn.heap.size, 0, none⟩) 3 3)) (by simp [Act.eval]) rfl (box_news (boxed_alloc _ _ _)) (jv_one _ _ _ _) (by omega) (by unfold maxLen; omega) (by omega) (Nat.le_trans (show base ≤ wC.heap.size by omega) hB.size) _ rfl ?_
     intro g gcap w9 hown9 hgrow9 hat9 hlt9
     have hrow9 : JvRow w9 base (.slice (some ⟨g, 0, none⟩) (qsC.length + 1) gcap) (qsC ++ [(swA qsC.length p a b, .slice (some ⟨wn.heap.size, 0, none⟩) 3 3)]) := Row.snoc (f := jvF) hown9
     have HS9 := hide ((unhide HSC).joint (unhide HNC) (unhide HQSC) (unhide HQVC) (unhide HQEC) hB hE hgrow9 hrow9 (by omega) (by omega) (by omega) (by omega) ⟨by omega, by omega⟩ ⟨by omega, by omega⟩)
     have hX9 := ((unhide HNC).below hB).1.grownE hgrow9 (fun hc => by have := ((unhide HQVC).lt _ hc).1; omega)
     have y1 := hX9.2.1 1 _ rfl
     have yz := hX9.2.2
     have yl := hX9.1
     clear hown9 hgrow9 hrow9 hat9
     refine hK.out _ _ (fun _ => y1) (fun _ => ?_)
     clear hK K
     (try simp only [sA])
     refine tkL 18 [19] ?_
     refine wpAnyL_ready (rs := [19]) (by kernel_rfl) (by simp) ?_
     refine (AllReadyL.cons rfl (fun K hK => ?_) AllReadyL.nil)
     go_simp
     refine hK.out _ _ (fun h => absurd rfl h) (fun _ => ?_)
     clear hK K
     (try simp only [sA])
     refine wpAnyL_done (by kernel_rfl) ?_ _

     go_wp2_with fail
     go_meet
     refine ⟨rfl, ?_⟩
     unfold Hid
     have h9 := unhide HS9
     rw [show swA qsC.length p a b = swA n.joints.length p a b by rw [unhide HQLC, unhide HJC], unhide HJC] at h9
     exact h9
    ·go_simp
     have hE : EdRow (wC.drew.alloc (.cells #[.int .i64 p, .int .i64 1, .int .i64 a, .int .i64 0, .int .i64 b, .int .i64 0] 141)) base (.slice (some ⟨wC.heap.size, 0, none⟩) 3 3) [⟨p, 1⟩, ⟨a, 0⟩, ⟨b, 0⟩] := ed_lit wC.drew base (show base ≤ wC.heap.size by omega) [⟨p, 1⟩, ⟨a, 0⟩, ⟨b, 0⟩] (by simp)
     have hB : Below wC.heap.size wC (wC.drew.alloc (.cells #[.int .i64 p, .int .i64 1, .int .i64 a, .int .i64 0, .int .i64 b, .int .i64 0] 141)) := bw0
     have hNn := (unhide HNC).below hB
     have hHeld := hNn.1.2.1 1 _ rfl
     clear hNn
     refine hK.out _ _ (fun _ => hHeld) (fun _ => ?_)
     clear hK K
     (try simp only [sA])
     refine wpAnyL_ready (rs := [7]) (by kernel_rfl) (by simp) ?_
     refine (AllReadyL.cons rfl (fun K hK => ?_) AllReadyL.nil)
     go_simp
     refine (name_any _ (100 + qsC.length) _ (by omega)).mono ?_
     rintro e wn ⟨rfl, hbn⟩
     dsimp only
     have hE := hE.below hbn
     have hB : Below wC.heap.size wC wn := below_then hB hbn
     have hNn := (unhide HNC).below hB
     have hHeld := hNn.1.2.1 1 _ rfl
     have xln := hNn.1.1
     have hsn := hB.size
     clear hNn
     refine hK.out _ _ (fun _ => hHeld) (fun _ => ?_)
     clear hK K
     (try simp only [sA])
     refine tkL 15 [16, 17, 18, 19] ?_
     refine wpAnyL_ready (rs := [16]) (by kernel_rfl) (by simp) ?_
     refine (AllReadyL.cons rfl (fun K hK => ?_) AllReadyL.nil)
     go_simp
     have hE := hE.below (bw0 : Below _ _ (wn.alloc (.cells #[.int .i64 3, .string (nameC (100 + qsC.length)), .slice (some ⟨wC.heap.size, 0, none⟩) 3 3] 56)))
     have hB : Below wC.heap.size wC (wn.alloc (.cells #[.int .i64 3, .string (nameC (100 + qsC.length)), .slice (some ⟨wC.heap.size, 0, none⟩) 3 3] 56)) := below_then hB bw0
     have hNn := (unhide HNC).below hB
     have hHeld := hNn.1.2.1 1 _ rfl
     have hsn2 := hB.size
     clear hNn
     refine hK.out _ _ (fun _ => hHeld) (fun _ => ?_)
     clear hK K
     (try simp only [sA])
     refine wpAnyL_ready (rs := [17]) (by kernel_rfl) (by simp) ?_
     refine (AllReadyL.cons rfl (fun K hK => ?_) AllReadyL.nil)
     refine step_append_lies _ rfl (.tmp 37) (.tmp 52) 24 rfl base 56 i1 (.agg #[.int .i64 0, .string ⟨#[]⟩, .slice none 0 0]) 3 48 Tryz.underlying24 hj1 hy0 hy1 hy2 rfl (by decide) (.slice vaC qsC.length vcC) qsC.length (qsC.flatMap jvF) (by simp [Act.eval]) ((unhide HQVC).below hB) _ 1 1 (jvF (swA qsC.length p a b, .slice (some ⟨wC.heap.size, 0, none⟩) 3 3)) (by simp [Act.eval]) rfl (box_news (boxed_alloc _ _ _)) (jv_one _ _ _ _) (by omega) (by unfold maxLen; omega) (by omega) (Nat.le_trans (show base ≤ wC.heap.size by omega) hB.size) _ rfl ?_
     intro g gcap w9 hown9 hgrow9 hat9 hlt9
     have hrow9 : JvRow w9 base (.slice (some ⟨g, 0, none⟩) (qsC.length + 1) gcap) (qsC ++ [(swA qsC.length p a b, .slice (some ⟨wC.heap.size, 0, none⟩) 3 3)]) := Row.snoc (f := jvF) hown9
     have HS9 := hide ((unhide HSC).joint (unhide HNC) (unhide HQSC) (unhide HQVC) (unhide HQEC) hB hE hgrow9 hrow9 (by omega) (by omega) (by omega) (by omega) ⟨by omega, by omega⟩ ⟨by omega, by omega⟩)
     have hX9 := ((unhide HNC).below hB).1.grownE hgrow9 (fun hc => by have := ((unhide HQVC).lt _ hc).1; omega)
     have y1 := hX9.2.1 1 _ rfl
     have yz := hX9.2.2
     have yl := hX9.1
     clear hown9 hgrow9 hrow9 hat9
     refine hK.out _ _ (fun _ => y1) (fun _ => ?_)
     clear hK K
     (try simp only [sA])
     refine tkL 18 [19] ?_
     refine wpAnyL_ready (rs := [19]) (by kernel_rfl) (by simp) ?_
     refine (AllReadyL.cons rfl (fun K hK => ?_) AllReadyL.nil)
     go_simp
     refine hK.out _ _ (fun h => absurd rfl h) (fun _ => ?_)
     clear hK K
     (try simp only [sA])
     refine wpAnyL_done (by kernel_rfl) ?_ _

     go_wp2_with fail
     go_meet
     refine ⟨rfl, ?_⟩
     unfold Hid
     have h9 := unhide HS9
     rw [show swA qsC.length p a b = swA n.joints.length p a b by rw [unhide HQLC, unhide HJC], unhide HJC] at h9
     exact h9
   case rest =>
    obtain ⟨rfl, HSD⟩ := hcut
    go_upto_region 12 with fail
    go_cut [5] (fun z wx => z = .int .i64 ((k' + 1 : Nat) : Int) ∧ Hid (StaAt C R X P base bs wb cC ⟨nC.pieces, (n.joints ++ [swA n.joints.length p a b]) ++ [swB (n.joints.length + 1) q a b]⟩ wx))
    case first =>
     obtain ⟨uD, vD, hND⟩ := (unhide HSD).net
     have hND : NetP _ _ _ uD vD (⟨nC.pieces, n.joints ++ [swA n.joints.length p a b]⟩ : Nt) := hND
     obtain ⟨qsD, hqsD, hqvD, hqeD⟩ := hND.2.2
     obtain ⟨vaD, vcD, hveD, _⟩ := hqvD.shape jvF_len
     subst hveD
     have HQLD : Hid (qsD.length = (⟨nC.pieces, n.joints ++ [swA n.joints.length p a b]⟩ : Nt).joints.length) := by unfold Hid; rw [← hqsD, List.length_map]
     have hqbD : qsD.length ≤ 1000 := by rw [unhide HQLD]; simp; omega
     have x1D := hND.1.2.1 1 _ rfl
     have xzD := hND.1.2.2
     have xlD := hND.1.1
     have hbsD := (unhide HSD).base_
     have HND := hide hND
     have HQVD := hide hqvD
     have HQED := hide hqeD
     have HQSD := hide hqsD
     clear hND hqvD hqeD hqsD

     have hwqD : IntKind.i64.wrap (100 + (qsD.length : Int)) = ((100 + qsD.length : Nat) : Int) := (wrap_small (by omega) (by omega)).trans (by omega)
     refine wp_region_last (S := fun w' => w'.cell? ⟨X, 1, none⟩ = some (.slice vaD qsD.length vcD)) 19 (by kernel_rfl) ?_ (fun hHeld => ?_)
     ·simpa using x1D
     refine tkL 0 [1, 17, 18, 19] ?_
     refine tkL 1 [17, 18, 19] ?_
     refine tkL 2 [7, 15, 16, 17, 18, 19] ?_
     refine tkL 3 [4, 5, 6, 7, 15, 16, 17, 18, 19] ?_
     refine tkL 4 [5, 6, 7, 15, 16, 17, 18, 19] ?_
     refine tkL 5 [6, 7, 15, 16, 17, 18, 19] ?_
     refine tkL 6 [7, 15, 16, 17, 18, 19] ?_
     refine tkL 8 [9, 14, 15, 16, 17, 18, 19] ?_
     refine tkL 9 [14, 15, 16, 17, 18, 19] ?_
     refine tkL 10 [11, 14, 15, 16, 17, 18, 19] ?_
     refine tkL 11 [14, 15, 16, 17, 18, 19] ?_
     refine tkL 12 [13, 14, 15, 16, 17, 18, 19] ?_
     refine tkL 13 [14, 15, 16, 17, 18, 19] ?_
     refine wpAnyL_ready (rs := [7, 14]) (by kernel_rfl) (by simp) ?_
     refine (AllReadyL.cons rfl (fun K hK => ?_) (AllReadyL.cons rfl (fun K hK => ?_) AllReadyL.nil))
     ·go_simp
      refine (name_any _ (100 + qsD.length) _ (by omega)).mono ?_
      rintro e wn ⟨rfl, hbn⟩
      dsimp only
      have hB : Below wc.heap.size wc wn := below_then bw0 hbn
      have hNn := (unhide HND).below hB
      have hHeld := hNn.1.2.1 1 _ rfl
      have xln := hNn.1.1
      have hsn := hB.size
      clear hNn
      refine hK.out _ _ (fun _ => hHeld) (fun _ => ?_)
      clear hK K
      (try simp only [sA])
      refine wpAnyL_ready (rs := [14]) (by kernel_rfl) (by simp) ?_
      refine (AllReadyL.cons rfl (fun K hK => ?_) AllReadyL.nil)
      go_simp
      have hE : EdRow (wn.alloc (.cells #[.int .i64 q, .int .i64 0, .int .i64 a, .int .i64 1, .int .i64 b, .int .i64 1] 141)) base (.slice (some ⟨wn.heap.size, 0, none⟩) 3 3) [⟨q, 0⟩, ⟨a, 1⟩, ⟨b, 1⟩] := ed_lit wn base (show base ≤ wn.heap.size by omega) [⟨q, 0⟩, ⟨a, 1⟩, ⟨b, 1⟩] (by simp)
      have hB : Below wc.heap.size wc (wn.alloc (.cells #[.int .i64 q, .int .i64 0, .int .i64 a, .int .i64 1, .int .i64 b, .int .i64 1] 141)) := below_then hB bw0
      have hNn := (unhide HND).below hB
      have hHeld := hNn.1.2.1 1 _ rfl
      clear hNn
      refine hK.out _ _ (fun _ => hHeld) (fun _ => ?_)
      clear hK K
      (try simp only [sA])
      refine tkL 15 [16, 17, 18, 19] ?_
      refine wpAnyL_ready (rs := [16]) (by kernel_rfl) (by simp) ?_
      refine (AllReadyL.cons rfl (fun K hK => ?_) AllReadyL.nil)
      go_simp
      have hE := hE.below (bw0 : Below _ _ ((wn.alloc (.cells #[.int .i64 q, .int .i64 0, .int .i64 a, .int .i64 1, .int .i64 b, .int .i64 1] 141)).alloc (.cells #[.int .i64 3, .string (nameC (100 + qsD.length)), .slice (some ⟨wn.heap.size, 0, none⟩) 3 3] 56)))
      have hB : Below wc.heap.size wc ((wn.alloc (.cells #[.int .i64 q, .int .i64 0, .int .i64 a, .int .i64 1, .int .i64 b, .int .i64 1] 141)).alloc (.cells #[.int .i64 3, .string (nameC (100 + qsD.length)), .slice (some ⟨wn.heap.size, 0, none⟩) 3 3] 56)) := below_then hB bw0
      have hNn := (unhide HND).below hB
      have hHeld := hNn.1.2.1 1 _ rfl
      have hsn2 := hB.size
      clear hNn
      refine hK.out _ _ (fun _ => hHeld) (fun _ => ?_)
      clear hK K
      (try simp only [sA])
      refine wpAnyL_ready (rs := [17]) (by kernel_rfl) (by simp) ?_
      refine (AllReadyL.cons rfl (fun K hK => ?_) AllReadyL.nil)
      refine step_append_lies _ rfl (.tmp 56) (.tmp 71) 24 rfl base 56 i1 (.agg #[.int .i64 0, .string ⟨#[]⟩, .slice none 0 0]) 3 48 Tryz.underlying24 hj1 hy0 hy1 hy2 rfl (by decide) (.slice vaD qsD.length vcD) qsD.length (qsD.flatMap jvF) (by simp [Act.eval]) ((unhide HQVD).below hB) _ 1 1 (jvF (swB qsD.length q a b, .slice (some ⟨wn.heap.size, 0, none⟩) 3 3)) (by simp [Act.eval]) rfl (box_news (boxed_alloc _ _ _)) (jv_one _ _ _ _) (by omega) (by unfold maxLen; omega) (by omega) (Nat.le_trans (show base ≤ wc.heap.size by omega) hB.size) _ rfl ?_
      intro g gcap w9 hown9 hgrow9 hat9 hlt9
      have hrow9 : JvRow w9 base (.slice (some ⟨g, 0, none⟩) (qsD.length + 1) gcap) (qsD ++ [(swB qsD.length q a b, .slice (some ⟨wn.heap.size, 0, none⟩) 3 3)]) := Row.snoc (f := jvF) hown9
      have HS9 := hide ((unhide HSD).joint (unhide HND) (unhide HQSD) (unhide HQVD) (unhide HQED) hB hE hgrow9 hrow9 (by omega) (by omega) (by omega) (by omega) ⟨by omega, by omega⟩ ⟨by omega, by omega⟩)
      have hX9 := ((unhide HND).below hB).1.grownE hgrow9 (fun hc => by have := ((unhide HQVD).lt _ hc).1; omega)
      have y1 := hX9.2.1 1 _ rfl
      have yz := hX9.2.2
      have yl := hX9.1
      clear hown9 hgrow9 hrow9 hat9
      refine hK.out _ _ (fun _ => y1) (fun _ => ?_)
      clear hK K
      (try simp only [sA])
      refine tkL 18 [19] ?_
      refine wpAnyL_ready (rs := [19]) (by kernel_rfl) (by simp) ?_
      refine (AllReadyL.cons rfl (fun K hK => ?_) AllReadyL.nil)
      go_simp
      refine hK.out _ _ (fun h => absurd rfl h) (fun _ => ?_)
      clear hK K
      (try simp only [sA])
      refine wpAnyL_done (by kernel_rfl) ?_ _

      go_wp2_with fail
      go_meet
      refine ⟨rfl, ?_⟩
      unfold Hid
      have h9 := unhide HS9
      rw [show swB qsD.length q a b = swB (n.joints.length + 1) q a b by rw [unhide HQLD]; simp] at h9
      exact h9
     ·go_simp
      have hE : EdRow (wc.drew.alloc (.cells #[.int .i64 q, .int .i64 0, .int .i64 a, .int .i64 1, .int .i64 b, .int .i64 1] 141)) base (.slice (some ⟨wc.heap.size, 0, none⟩) 3 3) [⟨q, 0⟩, ⟨a, 1⟩, ⟨b, 1⟩] := ed_lit wc.drew base (show base ≤ wc.heap.size by omega) [⟨q, 0⟩, ⟨a, 1⟩, ⟨b, 1⟩] (by simp)
      have hB : Below wc.heap.size wc (wc.drew.alloc (.cells #[.int .i64 q, .int .i64 0, .int .i64 a, .int .i64 1, .int .i64 b, .int .i64 1] 141)) := bw0
      have hNn := (unhide HND).below hB
      have hHeld := hNn.1.2.1 1 _ rfl
      clear hNn
      refine hK.out _ _ (fun _ => hHeld) (fun _ => ?_)
      clear hK K
      (try simp only [sA])
      refine wpAnyL_ready (rs := [7]) (by kernel_rfl) (by simp) ?_
      refine (AllReadyL.cons rfl (fun K hK => ?_) AllReadyL.nil)
      go_simp
      refine (name_any _ (100 + qsD.length) _ (by omega)).mono ?_
      rintro e wn ⟨rfl, hbn⟩
      dsimp only
      have hE := hE.below hbn
      have hB : Below wc.heap.size wc wn := below_then hB hbn
      have hNn := (unhide HND).below hB
      have hHeld := hNn.1.2.1 1 _ rfl
      have xln := hNn.1.1
      have hsn := hB.size
      clear hNn
      refine hK.out _ _ (fun _ => hHeld) (fun _ => ?_)
      clear hK K
      (try simp only [sA])
      refine tkL 15 [16, 17, 18, 19] ?_
      refine wpAnyL_ready (rs := [16]) (by kernel_rfl) (by simp) ?_
      refine (AllReadyL.cons rfl (fun K hK => ?_) AllReadyL.nil)
      go_simp
      have hE := hE.below (bw0 : Below _ _ (wn.alloc (.cells #[.int .i64 3, .string (nameC (100 + qsD.length)), .slice (some ⟨wc.heap.size, 0, none⟩) 3 3] 56)))
      have hB : Below wc.heap.size wc (wn.alloc (.cells #[.int .i64 3, .string (nameC (100 + qsD.length)), .slice (some ⟨wc.heap.size, 0, none⟩) 3 3] 56)) := below_then hB bw0
      have hNn := (unhide HND).below hB
      have hHeld := hNn.1.2.1 1 _ rfl
      have hsn2 := hB.size
      clear hNn
      refine hK.out _ _ (fun _ => hHeld) (fun _ => ?_)
      clear hK K
      (try simp only [sA])
      refine wpAnyL_ready (rs := [17]) (by kernel_rfl) (by simp) ?_
      refine (AllReadyL.cons rfl (fun K hK => ?_) AllReadyL.nil)
      refine step_append_lies _ rfl (.tmp 56) (.tmp 71) 24 rfl base 56 i1 (.agg #[.int .i64 0, .string ⟨#[]⟩, .slice none 0 0]) 3 48 Tryz.underlying24 hj1 hy0 hy1 hy2 rfl (by decide) (.slice vaD qsD.length vcD) qsD.length (qsD.flatMap jvF) (by simp [Act.eval]) ((unhide HQVD).below hB) _ 1 1 (jvF (swB qsD.length q a b, .slice (some ⟨wc.heap.size, 0, none⟩) 3 3)) (by simp [Act.eval]) rfl (box_news (boxed_alloc _ _ _)) (jv_one _ _ _ _) (by omega) (by unfold maxLen; omega) (by omega) (Nat.le_trans (show base ≤ wc.heap.size by omega) hB.size) _ rfl ?_
      intro g gcap w9 hown9 hgrow9 hat9 hlt9
      have hrow9 : JvRow w9 base (.slice (some ⟨g, 0, none⟩) (qsD.length + 1) gcap) (qsD ++ [(swB qsD.length q a b, .slice (some ⟨wc.heap.size, 0, none⟩) 3 3)]) := Row.snoc (f := jvF) hown9
      have HS9 := hide ((unhide HSD).joint (unhide HND) (unhide HQSD) (unhide HQVD) (unhide HQED) hB hE hgrow9 hrow9 (by omega) (by omega) (by omega) (by omega) ⟨by omega, by omega⟩ ⟨by omega, by omega⟩)
      have hX9 := ((unhide HND).below hB).1.grownE hgrow9 (fun hc => by have := ((unhide HQVD).lt _ hc).1; omega)
      have y1 := hX9.2.1 1 _ rfl
      have yz := hX9.2.2
      have yl := hX9.1
      clear hown9 hgrow9 hrow9 hat9
      refine hK.out _ _ (fun _ => y1) (fun _ => ?_)
      clear hK K
      (try simp only [sA])
      refine tkL 18 [19] ?_
      refine wpAnyL_ready (rs := [19]) (by kernel_rfl) (by simp) ?_
      refine (AllReadyL.cons rfl (fun K hK => ?_) AllReadyL.nil)
      go_simp
      refine hK.out _ _ (fun h => absurd rfl h) (fun _ => ?_)
      clear hK K
      (try simp only [sA])
      refine wpAnyL_done (by kernel_rfl) ?_ _

      go_wp2_with fail
      go_meet
      refine ⟨rfl, ?_⟩
      unfold Hid
      have h9 := unhide HS9
      rw [show swB qsD.length q a b = swB (n.joints.length + 1) q a b by rw [unhide HQLD]; simp] at h9
      exact h9
    case rest =>
     obtain ⟨rfl, HSE⟩ := hcut
     go_wp2_with fail
     obtain ⟨e1, e2, e3, e4⟩ := unhide HABQ
     refine ⟨⟨k', q, _, cC, rfl, rfl, by omega, ?_, ?_, by omega, ?_, HSE⟩, by simp [intOf]⟩
     ·show nC.pieces.length + 3 * k' ≤ 10
      omega
     ·simp only [List.length_append, List.length_singleton]
      omega
     ·rw [← unhide HGO]
      show _ = stationGo bs k' (n.pieces.length + 2) _ _
      rw [unhide HTH, e1, e2, e3]
  ·have hkp : ¬ (0 : Int) < (k : Int) := by omega
   have hk0' : k = 0 := by omega
   subst hk0'
   have HSF := HSR
   obtain ⟨uF, vF, hNF⟩ := (unhide HSF).net
   have hNF : NetP _ _ _ uF vF n := hNF
   obtain ⟨qsF, hqsF, hqvF, hqeF⟩ := hNF.2.2
   obtain ⟨vaF, vcF, hveF, _⟩ := hqvF.shape jvF_len
   subst hveF
   have HQLF : Hid (qsF.length = n.joints.length) := by unfold Hid; rw [← hqsF, List.length_map]
   have hqbF : qsF.length ≤ 1000 := by rw [unhide HQLF]; omega
   have x1F := hNF.1.2.1 1 _ rfl
   have xzF := hNF.1.2.2
   have xlF := hNF.1.1
   have hbsF := (unhide HSF).base_
   have HNF := hide hNF
   have HQVF := hide hqvF
   have HQEF := hide hqeF
   have HQSF := hide hqsF
   clear hNF hqvF hqeF hqsF

   go_wp2_with (at_builtin; refine wpList_append_own _ rfl (.tmp 76) (.tmp 81) 24 rfl base 56 i1 (.agg #[.int .i64 0, .string ⟨#[]⟩, .slice none 0 0]) 3 48 Tryz.underlying24 hj1 hy0 hy1 hy2 rfl (by decide) _ _ _ rfl ((unhide HQVF).below bw0) ⟨wr.heap.size + 1, 0, none⟩ 1 1 (jvF (endJ p 1, .slice (some ⟨wr.heap.size, 0, none⟩) 1 1)) rfl rfl ?c1 (jv_one _ _ _ _) ?c2 ?c3 ?c4 ?_)
   case c1 => (first | exact fun _ _ h => h | exact box_news (boxedN _ _ _ (by first | rfl | simp)))
   case c2 => unfold maxLen; omega
   case c3 => omega
   case c4 => (first | omega | (simp; omega))
   intro v' w9 hown9 hgrow9 _
   have hrow9 : JvRow w9 base v' (qsF ++ [(endJ p 1, .slice (some ⟨wr.heap.size, 0, none⟩) 1 1)]) := Row.snoc (f := jvF) hown9
   obtain ⟨va9, vc9, hve9, _⟩ := hrow9.shape jvF_len
   rw [List.length_append, List.length_singleton] at hve9
   subst hve9
   have hE9 : EdRow (wr.alloc (.cells #[.int .i64 p, .int .i64 1] 141)) base (.slice (some ⟨wr.heap.size, 0, none⟩) 1 1) (endJ p 1).ends := ed_lit wr base (by omega) [⟨(p : Nat), (1 : Nat)⟩] (by simp)
   have HS9 := hide ((unhide HSF).joint (unhide HNF) (unhide HQSF) (unhide HQVF) (unhide HQEF) bw0 (hE9.below bw0) hgrow9 hrow9 (by omega) (by omega) (by omega) (by omega) ⟨by omega, by omega⟩ ⟨by omega, by omega⟩)
   have hX9 := ((((unhide HNF).1.alloc _).alloc _).grownE hgrow9 (fun hc => by have := ((unhide HQVF).lt _ hc).1; omega))
   have y1 := hX9.2.1 1 _ rfl
   have yz := hX9.2.2
   have yl := hX9.1
   clear hown9 hgrow9 hrow9 hE9 hX9
   go_upto_region 15 with fail
   obtain ⟨wz, hwz⟩ : ∃ wz, w9.setCell ⟨X, 1, none⟩ (.slice va9 (qsF.length + 1) vc9) = wz := ⟨_, rfl⟩
   rw [hwz] at HS9 ⊢
   clear hwz y1 yz yl HSR HSF HNF HQVF HQEF HQSF x1F xzF xlF hbsF hqbF
   obtain ⟨uz, vz, hNz⟩ := (unhide HS9).net
   have hNz : NetP _ _ _ uz vz _ := hNz
   obtain ⟨a1, cap1, hu1, hpz⟩ := pcRow_at hNz.2.1
   obtain ⟨a2, cap2, hu2, hjz⟩ := jtRow_at hNz.2.2
   subst hu1
   subst hu2
   have HNZ : Hid (NetAt base wz (.agg #[.slice a1 n.pieces.length cap1, .slice a2 (n.joints ++ [endJ p 1]).length cap2]) ⟨n.pieces, n.joints ++ [endJ p 1]⟩) := ⟨a1, a2, cap1, cap2, rfl, hpz, hjz⟩
   have z0 := hNz.1.2.1 0 _ rfl
   have z1 := hNz.1.2.1 1 _ rfl
   have zl := hNz.1.1
   have r0 := (unhide HS9).rb.2.1 0 _ rfl
   have r1 := (unhide HS9).rb.2.1 1 _ rfl
   have rz := (unhide HS9).rb.2.2
   have rl := (unhide HS9).rb.1
   have hRX : ¬ R = X := by omega
   have hXR : ¬ X = R := by omega
   clear hNz hpz hjz
   dsimp only at z0 z1
   obtain ⟨m2, hm2⟩ : ∃ m2, (n.joints ++ [endJ p 1]).length = m2 := ⟨_, rfl⟩
   rw [hm2] at z1 HNZ
   have HM2 := hide hm2
   clear hm2
   have hbf := ((unhide HS9).rb.setI (i := 0) (by simp) (.slice a1 n.pieces.length cap1)).setI (i := 1) (by simp) (.slice a2 m2 cap2)
   have f0 := hbf.2.1 0 _ rfl
   have f1 := hbf.2.1 1 _ rfl
   have HF := hide (And.intro f0 f1)
   clear hbf f0 f1
   go_wp2_with fail
   obtain ⟨f0, f1⟩ := unhide HF
   have hres : stationC bs c = (⟨n.pieces, n.joints ++ [endJ p 1]⟩, cc) := by
    have h1 : stationGo bs (1 + k0) 0 ⟨n3.pieces, [endJ 0 0]⟩ c3 = (p, n, cc) := (unhide HGO).symm
    unfold stationC
    rw [unhide HST1, unhide HK0, show (1 + (k0 : Int)).toNat = 1 + k0 by omega]
    dsimp only
    rw [h1]
   refine bodyPost_ret (v := .agg #[.slice a1 n.pieces.length cap1, .slice a2 m2 cap2]) (by simp [results, Tryz.results29, go_sem, f0, f1]) rfl ?_
   rw [hres]
   refine ⟨_, rfl, ?_, ?_, ?_⟩
   ·exact ((unhide HNZ).keeps ((keeps_setCell _ (p := ⟨R, 0, none⟩) (show R < base by omega) _).trans (keeps_setCell _ (p := ⟨R, 1, none⟩) (show R < base by omega) _))).mono (by rw [hR]; omega)
   ·exact (unhide HS9).cur.of_below (U := C + 1) bw0 (by omega)
   ·exact ((but_but (unhide HB0) (unhide HS9).but (show w.heap.size ≤ X by omega) (by omega)).trans (but_setCell _ (Or.inr (show w.heap.size ≤ R by omega)) _)).trans (but_setCell _ (Or.inr (show w.heap.size ≤ R by omega)) _)
end Go.Proofs.YtjacbppeebnjfaaGreat

