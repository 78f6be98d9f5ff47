import Derived.Test.YtbdggfpfpjijoaaGreatDoorMDr7
import Derived.Test.YtbdggfpfpjijoaaGreatDoorMDr11
import Derived.Deep.CutBlock
set_option linter.unusedSimpArgs false
namespace Go.Proofs.YtbdggfpfpjijoaaGreatDoor
open Go.RowKit

def TwoJ (qs : List (Jt × Value)) : Prop := qs.Pairwise fun p q => ∀ k, p.2.ownBlock = some k → q.2.ownBlock ≠ some k
def JtD (w : World) (base : Nat) (v : Value) (js : List Jt) : Prop := ∃ qs : List (Jt × Value), qs.map Prod.fst = js ∧ JvRow w base v qs ∧ (∀ q ∈ qs, EdRow w base q.2 q.1.ends) ∧ TwoJ qs
theorem JtD.row {w : World} {base : Nat} {v : Value} {js : List Jt} (h : JtD w base v js) : JtRow w base v js := by
 obtain ⟨qs, e, h1, h2, _⟩ := h
 exact ⟨qs, e, h1, h2⟩
theorem jtD_nil (w : World) (base : Nat) : JtD w base (.slice none 0 0) [] := ⟨[], rfl, Row.nil _ _ _ _ _, (fun q hq => by cases hq), List.Pairwise.nil⟩
theorem JtD.blocks {w w' : World} {base : Nat} {v : Value} {js : List Jt} (h : JtD w base v js) (hb : ∀ k, base ≤ k → k < w.heap.size → w'.heap[k]? = w.heap[k]?) : JtD w' base v js := by
 obtain ⟨qs, e, h1, h2, h3⟩ := h
 exact ⟨qs, e, h1.block fun k hk => hb k (h1.lt k hk).1 (h1.lt k hk).2, fun q hq => (h2 q hq).block fun k hk => hb k ((h2 q hq).lt k hk).1 ((h2 q hq).lt k hk).2, h3⟩
theorem JtD.mono {w : World} {base base' : Nat} {v : Value} {js : List Jt} (h : JtD w base v js) (hb : base' ≤ base) : JtD w base' v js := by
 obtain ⟨qs, e, h1, h2, h3⟩ := h
 exact ⟨qs, e, Row.mono h1 hb, fun q hq => Row.mono (h2 q hq) hb, h3⟩
def NetD (w : World) (X base : Nat) (u v : Value) (n : Nt) : Prop := Boxed w X [u, v] ∧ PcRow w base u n.pieces ∧ JtD w base v n.joints
theorem NetD.p {w : World} {X base : Nat} {u v : Value} {n : Nt} (h : NetD w X base u v n) : NetP w X base u v n := ⟨h.1, h.2.1, h.2.2.row⟩
theorem NetD.below {w w' : World} {X base : Nat} {u v : Value} {n : Nt} (h : NetD w X base u v n) (hb : Below w.heap.size w w') : NetD w' X base u v n := ⟨h.1.below hb, h.2.1.below hb, h.2.2.blocks fun k _ hk => hb.block k hk⟩
theorem JtD.kept {w w' : World} {base : Nat} {v : Value} {js : List Jt} {row : Option Nat} (h : JtD w base v js) (hg : w.grownBy w' row) (hr : ∀ k T cur, row = some k → w.heap[k]? = some (.cells cur T (0, 0)) → T ≠ 76 ∧ T ≠ 151) : JtD w' base v js := by
 obtain ⟨qs, e, h1, h2, h3⟩ := h
 have ne : ∀ {α : Type} {e' : TypeId} {sz : Nat} {f : α → List Value} {v' : Value} {ys : List α}, Row w base e' sz f v' ys → (e' = 76 ∨ e' = 151) → ∀ k, v'.ownBlock = some k → row ≠ some k := by
  intro α e' sz f v' ys hr' he k hk hrow
  obtain ⟨_, ⟨rfl, _⟩ | ⟨g, cap, cur', rfl, _, hh', _⟩⟩ := hr'
  ·simp [Value.ownBlock] at hk
  ·simp [Value.ownBlock] at hk
   subst hk
   have := hr g _ _ hrow hh'
   rcases he with rfl | rfl
   ·exact this.1 rfl
   ·exact this.2 rfl
 exact ⟨qs, e, h1.kept hg (ne h1 (Or.inl rfl)), fun q hq => (h2 q hq).kept hg (ne (h2 q hq) (Or.inr rfl)), h3⟩
theorem NetD.addPiece {w w2 : World} {X base : Nat} {u v : Value} {n : Nt} {p : Pc} (h : NetD w X base u v n) (hX : X < base) {v' : Value} (hg : w.grownBy w2 u.ownBlock) (hown : PcRow w2 base v' (n.pieces ++ [p])) : NetD (w2.setCell ⟨X, 0, none⟩ v') X base v' v ⟨n.pieces ++ [p], n.joints⟩ := by
 have hb := h.1.grownE hg (fun hc => by have := (h.2.1.lt _ hc).1; omega)
 have hj : JtD w2 base v n.joints := h.2.2.kept hg (fun k T cur hk hh => by
  obtain ⟨_, ⟨hu, _⟩ | ⟨g, cap, cur', hu, _, hh', _⟩⟩ := h.2.1
  ·rw [hu] at hk
   simp [Value.ownBlock] at hk
  ·rw [hu] at hk
   simp [Value.ownBlock] at hk
   subst hk
   rw [hh] at hh'
   simp at hh'
   rw [hh'.2]
   decide)
 exact ⟨hb.setI (i := 0) (by simp) v', hown.setCell (p := ⟨X, 0, none⟩) hX v', hj.blocks fun k hk _ => Below.heap_setCell w2 ⟨X, 0, none⟩ v' k (show k ≠ X by omega)⟩
theorem NetD.addJoint {w w2 : World} {X base : Nat} {u v ev : Value} {n : Nt} {j : Jt} {qs : List (Jt × Value)} (h : NetD w X base u v n) (hX : X < base) {v' : Value} (hg : w.grownBy w2 v.ownBlock) (hqs : qs.map Prod.fst = n.joints) (hv : JvRow w base v qs) (hqe : ∀ q ∈ qs, EdRow w base q.2 q.1.ends) (htw : TwoJ qs) (hfr : ∀ q ∈ qs, ∀ k, q.2.ownBlock = some k → ev.ownBlock ≠ some k) (hev : EdRow w base ev j.ends) (hown : JvRow w2 base v' (qs ++ [(j, ev)])) :
  NetD (w2.setCell ⟨X, 1, none⟩ v') X base u v' ⟨n.pieces, n.joints ++ [j]⟩ := by
 have hb := h.1.grownE hg (fun hc => by have := (hv.lt _ hc).1; omega)
 have hp : PcRow w2 base u n.pieces := h.2.1.kept hg (fun k hk hc => Row.apart h.2.1 hv (by decide) k hk hc)
 have hed : ∀ {x : Value} {es : List Ed}, EdRow w base x es → EdRow (w2.setCell ⟨X, 1, none⟩ v') base x es := fun hx => (hx.kept hg (fun k hk hc => Row.apart hx hv (by decide) k hk hc)).setCell (p := ⟨X, 1, none⟩) hX v'
 refine ⟨hb.setI (i := 1) (by simp) v', hp.setCell (p := ⟨X, 1, none⟩) hX v', qs ++ [(j, ev)], by simp [hqs], hown.setCell (p := ⟨X, 1, none⟩) hX v', fun q hq => ?_, List.pairwise_append.2 ⟨htw, List.pairwise_singleton _ _, fun p hp q hq k hk => by simp at hq; subst hq; exact hfr p hp k hk⟩⟩
 rcases List.mem_append.1 hq with hq | hq
 ·exact hed (hqe q hq)
 ·simp at hq
  subst hq
  exact hed hev

set_option maxRecDepth 100000 in
set_option maxHeartbeats 8000000 in
theorem copy_any (v : Value) (n : Nt) (w : World) {L : Nat} (hv : NetAt L w v n) (hl : n.pieces.length ≤ 1000000) (hl' : n.joints.length ≤ 1000000) (hle : ∀ i (h : i < n.joints.length), n.joints[i].ends.length ≤ 1000000) :
  Calls Tryz.prog 128 #[v] w fun e w' => ∃ u v', e = .returned (.agg #[u, v']) ∧ PcRow w' w.heap.size u n.pieces ∧ JtD w' w.heap.size v' n.joints ∧ Below w.heap.size w w' := by
 obtain ⟨x, c, ca, cc, rfl, hp, hj⟩ := hv
 have HP := hide hp
 have HJ := hide hj
 have HLE := hide hle
 clear hp hj hle
 obtain ⟨i1, hi1, hy0, hy1, hy2⟩ := info_parts info_Piece
 obtain ⟨i2, hi2, hx0, hx1, hx2⟩ := info_parts info_End
 obtain ⟨i3, hi3, hs0, hs1, hs2⟩ := info_parts info_Joint
 go_enter Tryz.func128, Tryz.ntmps128
 go_wp2_with fail
 obtain ⟨w3, hw3⟩ : ∃ w3, ((w.alloc (.cells #[.slice x n.pieces.length ca, .slice c n.joints.length cc] 26)).alloc (.cells #[.slice none 0 0, .slice none 0 0] 26)).alloc (.cells #[.slice none 0 0, .slice none 0 0] 26) = w3 := ⟨_, rfl⟩
 have hb3 : Below w.heap.size w w3 := by rw [← hw3]; exact bw0
 have hB0 : Boxed w3 w.heap.size [.slice x n.pieces.length ca, .slice c n.joints.length cc] := by rw [← hw3]; exact ((boxed_alloc _ _ _).alloc _).alloc _
 have hR0 : Boxed w3 (w.heap.size + 1) [.slice none 0 0, .slice none 0 0] := by rw [← hw3]; exact (boxedN _ _ _ (by simp)).alloc _
 have hX0 : Boxed w3 (w.heap.size + 1 + 1) [.slice none 0 0, .slice none 0 0] := by rw [← hw3]; exact boxedN _ _ _ (by simp)
 have HN0 : Hid (NetD w3 (w.heap.size + 1 + 1) (w.heap.size + 1 + 1 + 1) (.slice none 0 0) (.slice none 0 0) ⟨[], []⟩) := ⟨hX0, Row.nil _ _ _ _ _, jtD_nil _ _⟩
 have HB0 := hide hB0
 have HR0 := hide hR0
 have HB3 := hide hb3
 rw [hw3]
 clear hw3 hb3 hB0 hR0 hX0
 go_loopw [14] (fun z wr => ∃ (k : Nat) (u : Value), k ≤ n.pieces.length ∧ z = .int .i64 k ∧ Hid (NetD wr (w.heap.size + 1 + 1) (w.heap.size + 1 + 1 + 1) u (.slice none 0 0) ⟨n.pieces.take k, []⟩) ∧ Hid (Boxed wr w.heap.size [.slice x n.pieces.length ca, .slice c n.joints.length cc]) ∧ Hid (Boxed wr (w.heap.size + 1) [.slice none 0 0, .slice none 0 0]) ∧ Hid (Below w.heap.size w wr)) (fun z _ => n.pieces.length - (intOf z).toNat)
 case atStart => exact ⟨0, _, Nat.zero_le _, rfl, HN0, HB0, HR0, HB3⟩
 case round =>
  obtain ⟨k, u, hk, rfl, HN, HB, HR, HBW⟩ := hrel
  by_cases hlt : k < n.pieces.length
  ·obtain ⟨pb, poff, hpe, hpb, c0, c1, c2, c3⟩ := (unhide HP).below (unhide HBW) k hlt
   have htk : n.pieces.take (k + 1) = n.pieces.take k ++ [n.pieces[k]] := List.take_succ_eq_append_getElem hlt
   have HTK : Hid (∀ y, n.pieces[k] = y → n.pieces.take (k + 1) = n.pieces.take k ++ [y]) := fun y e => by rw [htk, e]
   clear htk
   generalize n.pieces[k] = p at *
   have HTK2 := hide (unhide HTK p rfl)
   clear HTK
   obtain ⟨pn, pl, psp, pbr⟩ := p
   dsimp only at c0 c1 c2 c3
   obtain ⟨ps, hps⟩ : ∃ ps, n.pieces.take k = ps := ⟨_, rfl⟩
   have hpsl : ps.length ≤ 1000000 := by rw [← hps, List.length_take]; omega
   rw [hps] at HN HTK2
   clear hps
   obtain ⟨ua, ucap, hue, _⟩ := pcRow_at (unhide HN).2.1
   dsimp only at hue
   subst hue
   subst hpe
   have hpb2 := hpb.2
   have hlt' : (k : Int) < (n.pieces.length : Int) := by omega
   have x0 := (unhide HN).1.2.1 0 _ rfl
   have xz := (unhide HN).1.2.2
   have xl := (unhide HN).1.1
   have b0 := (unhide HB).2.1 0 _ rfl
   have bl := (unhide HB).1
   have HPR := hide (unhide HN).2.1
   have hne : some (w.heap.size + 1 + 1) ≠ (Value.slice ua ps.length ucap).ownBlock := fun hc => by have := ((unhide HPR).lt _ hc.symm).1; omega
   go_wp2_with (at_builtin; refine wpList_append_lies _ rfl (.tmp 19) (.tmp 21) 23 rfl (w.heap.size + 1 + 1 + 1) 134 i1 (.agg #[.string ⟨#[]⟩, .int .i64 0, .int .i64 0, .int .i64 0]) 4 40 Tryz.underlying23 hi1 hy0 hy1 hy2 rfl (by decide) _ ps.length (ps.flatMap pcF) rfl ((unhide HPR).below bw0) ⟨wr.heap.size + 1, 0, none⟩ 1 1 (pcF ⟨pn, pl, psp, pbr⟩) rfl rfl (pc_news (boxedN _ _ _ (by simp))) (pc_one _) (by omega) (by unfold maxLen; omega) (by omega) (by first | omega | (simp; omega)) _ rfl ?_)
   intro g cap w5 hown hgrow hat hlt5
   have hbX : Below wr.heap.size wr ((wr.alloc (.cells #[.string pn, .int .i64 pl, .int .i64 psp, .int .i64 pbr] 134)).alloc (.cells #[.string pn, .int .i64 pl, .int .i64 psp, .int .i64 pbr] 134)) := bw0
   have hge : ∀ j, (Value.slice ua ps.length ucap).ownBlock = some j → w.heap.size + 1 + 1 + 1 ≤ j := fun j hj => ((unhide HPR).lt j hj).1
   have hX5 := ((unhide HN).1.below hbX).grownE hgrow (fun hc => by have := hge _ hc; omega)
   have d0 := hX5.2.1 0 _ rfl
   have dz := hX5.2.2
   have dl := hX5.1
   have HN5 := hide (((unhide HN).below hbX).addPiece (p := ⟨pn, pl, psp, pbr⟩) (by omega) hgrow (Row.snoc hown))
   have HB5 := hide ((((unhide HB).below hbX).grownE hgrow (fun hc => by have := hge _ hc; omega)).apart (p := ⟨w.heap.size + 1 + 1, 0, none⟩) (show w.heap.size ≠ w.heap.size + 1 + 1 by omega) (.slice (some ⟨g, 0, none⟩) (ps.length + 1) cap))
   have HR5 := hide ((((unhide HR).below hbX).grownE hgrow (fun hc => by have := hge _ hc; omega)).apart (p := ⟨w.heap.size + 1 + 1, 0, none⟩) (show w.heap.size + 1 ≠ w.heap.size + 1 + 1 by omega) (.slice (some ⟨g, 0, none⟩) (ps.length + 1) cap))
   have hbwX := below_then (unhide HBW) hbX
   have HBW5 := hide ((Below.grown hbwX hgrow hbwX.size (fun j hj => by have := hge j hj; omega)).setCell (p := ⟨w.heap.size + 1 + 1, 0, none⟩) (show w.heap.size ≤ w.heap.size + 1 + 1 by omega) (.slice (some ⟨g, 0, none⟩) (ps.length + 1) cap))
   clear hown hgrow hat hlt5 hbX hge hX5 hbwX x0 xz xl b0 bl c0 c1 c2 c3 hne HPR
   go_wp2_with fail
   refine ⟨⟨k + 1, .slice (some ⟨g, 0, none⟩) (ps.length + 1) cap, by omega, by go_num, ?_, HB5, HR5, HBW5⟩, by simp [intOf]; omega⟩
   rw [unhide HTK2]
   exact HN5
  ·have hlt' : ¬ (k : Int) < (n.pieces.length : Int) := by omega
   obtain rfl : k = n.pieces.length := by omega
   have hN := unhide HN
   rw [List.take_length] at hN
   have HN1 := hide hN
   have b1 := (unhide HB).2.1 1 _ rfl
   have bl := (unhide HB).1
   clear hN HN
   go_wp2_with fail
   clear b1 bl
   go_loopw [28] (fun z wr => ∃ (k : Nat) (v' : Value), k ≤ n.joints.length ∧ z = .int .i64 k ∧ Hid (NetD wr (w.heap.size + 1 + 1) (w.heap.size + 1 + 1 + 1) u v' ⟨n.pieces, n.joints.take k⟩) ∧ Hid (Boxed wr w.heap.size [.slice x n.pieces.length ca, .slice c n.joints.length cc]) ∧ Hid (Boxed wr (w.heap.size + 1) [.slice none 0 0, .slice none 0 0]) ∧ Hid (Below w.heap.size w wr)) (fun z _ => n.joints.length - (intOf z).toNat)
   case atStart => exact ⟨0, _, Nat.zero_le _, rfl, HN1, HB, HR, HBW⟩
   case round =>
    obtain ⟨k, v', hk, rfl, HN, HB, HR, HBW⟩ := hrel
    by_cases hlt2 : k < n.joints.length
    ·obtain ⟨jb, joff, ea, ec, hje, hjb, c0, c1, c2, hes⟩ := (unhide HJ).below (unhide HBW) k hlt2
     have hel := unhide HLE k hlt2
     have htk : n.joints.take (k + 1) = n.joints.take k ++ [n.joints[k]] := List.take_succ_eq_append_getElem hlt2
     have HTK : Hid (∀ y, n.joints[k] = y → n.joints.take (k + 1) = n.joints.take k ++ [y]) := fun y e => by rw [htk, e]
     clear htk
     generalize n.joints[k] = j at *
     have HTK2 := hide (unhide HTK j rfl)
     clear HTK
     obtain ⟨jk, jn, je⟩ := j
     dsimp only at c0 c1 c2 hes hel
     have HES := hide hes
     obtain ⟨js, hjs⟩ : ∃ js, n.joints.take k = js := ⟨_, rfl⟩
     have hjsl : js.length ≤ 1000000 := by rw [← hjs, List.length_take]; omega
     rw [hjs] at HN HTK2
     subst hje
     have hjb2 := hjb.2
     have hlt2' : (k : Int) < (n.joints.length : Int) := by omega
     obtain ⟨wr0, rfl⟩ : ∃ wr0, wr0 = wr := ⟨_, rfl⟩
     have hXl := (unhide HN).1.1
     clear hes hjs hjb
     go_wp2_with fail
     have HJB : Hid (Boxed ((wr0.alloc (.cells #[.int .i64 jk, .string jn, .slice ea je.length ec] 76)).alloc (.cells #[.int .i64 jk, .string jn, .slice none 0 0] 76)) (wr0.heap.size + 1) [.int .i64 jk, .string jn, .slice none 0 0]) := boxedN _ _ _ (by simp)
     go_loopw [40] (fun z wy => ∃ (e : Nat) (ev : Value), e ≤ je.length ∧ z = .int .i64 e ∧ Hid (Boxed wy (wr0.heap.size + 1) [.int .i64 jk, .string jn, ev]) ∧ Hid (EdRow wy (wr0.heap.size + 1 + 1) ev (je.take e)) ∧ Hid (Below wr0.heap.size wr0 wy)) (fun z _ => je.length - (intOf z).toNat)
     case atStart => exact ⟨0, _, Nat.zero_le _, rfl, HJB, hide (Row.nil _ _ _ _ _), hide bw0⟩
     case round =>
      obtain ⟨e, ev, he, rfl, HX, HE, HBY⟩ := hrel
      by_cases hlt3 : e < je.length
      ·obtain ⟨eb, eoff, hee, heb, d0, d1⟩ := ((unhide HES).below (unhide HBY)) e hlt3
       have htk : je.take (e + 1) = je.take e ++ [je[e]] := List.take_succ_eq_append_getElem hlt3
       have HTE : Hid (∀ y, je[e] = y → je.take (e + 1) = je.take e ++ [y]) := fun y e' => by rw [htk, e']
       clear htk
       generalize je[e] = y at *
       have HTE2 := hide (unhide HTE y rfl)
       clear HTE
       obtain ⟨yp, ys⟩ := y
       dsimp only at d0 d1
       obtain ⟨es, hes⟩ : ∃ es, je.take e = es := ⟨_, rfl⟩
       have hesl : es.length ≤ 1000000 := by rw [← hes, List.length_take]; omega
       rw [hes] at HE HTE2
       clear hes
       obtain ⟨va, vcap, hve, _⟩ := edRow_at (unhide HE)
       subst hve
       subst hee
       have heb2 := heb.2
       have hlt3' : (e : Int) < (je.length : Int) := by omega
       have x2 := (unhide HX).2.1 2 _ rfl
       have xz := (unhide HX).2.2
       have xl := (unhide HX).1
       clear heb
       go_wp2_with (at_builtin; refine wpList_append_lies _ rfl (.tmp 45) (.tmp 47) 74 rfl (wr0.heap.size + 1 + 1) 151 i2 (.agg #[.int .i64 0, .int .i64 0]) 2 16 Tryz.underlying74 hi2 hx0 hx1 hx2 rfl (by decide) _ es.length (es.flatMap edF) rfl ((unhide HE).below bw0) ⟨wr.heap.size + 1, 0, none⟩ 1 1 (edF ⟨yp, ys⟩) rfl rfl (box_news (vs := edF ⟨yp, ys⟩) (boxedN _ _ _ (by simp))) (ed_one _) (by omega) (by unfold maxLen; omega) (by omega) (by first | omega | (simp; omega)) _ rfl ?_)
       intro g cap w5 hown hgrow hat hlt5
       have hbX : Below wr.heap.size wr ((wr.alloc (.cells #[.int .i64 yp, .int .i64 ys] 151)).alloc (.cells #[.int .i64 yp, .int .i64 ys] 151)) := bw0
       have hge : ∀ j, (Value.slice va es.length vcap).ownBlock = some j → wr0.heap.size + 1 + 1 ≤ j := fun j hj => ((unhide HE).lt j hj).1
       have hX5 := ((unhide HX).below hbX).grownE hgrow (fun hc => by have := hge _ hc; omega)
       have f2 := hX5.2.1 2 _ rfl
       have fz := hX5.2.2
       have fl := hX5.1
       have HX6 : Hid (Boxed (w5.setCell ⟨wr0.heap.size + 1, 2, none⟩ (.slice (some ⟨g, 0, none⟩) (es.length + 1) cap)) (wr0.heap.size + 1) [.int .i64 jk, .string jn, .slice (some ⟨g, 0, none⟩) (es.length + 1) cap]) := hX5.setI (i := 2) (by simp) (.slice (some ⟨g, 0, none⟩) (es.length + 1) cap)
       have hrow5 : EdRow w5 (wr0.heap.size + 1 + 1) (.slice (some ⟨g, 0, none⟩) (es.length + 1) cap) (es ++ [⟨yp, ys⟩]) := Row.snoc hown
       have HE6 := hide (hrow5.setCell (p := ⟨wr0.heap.size + 1, 2, none⟩) (show wr0.heap.size + 1 < wr0.heap.size + 1 + 1 by omega) (.slice (some ⟨g, 0, none⟩) (es.length + 1) cap))
       have hbwX := below_then (unhide HBY) hbX
       have HBY6 := hide ((Below.grown hbwX hgrow hbwX.size (fun j hj => by have := hge j hj; omega)).setCell (p := ⟨wr0.heap.size + 1, 2, none⟩) (show wr0.heap.size ≤ wr0.heap.size + 1 by omega) (.slice (some ⟨g, 0, none⟩) (es.length + 1) cap))
       clear hown hgrow hat hlt5 hbX hge hX5 hbwX x2 xz xl d0 d1 hrow5
       go_wp2_with fail
       refine ⟨⟨e + 1, .slice (some ⟨g, 0, none⟩) (es.length + 1) cap, by omega, by go_num, HX6, ?_, HBY6⟩, by simp [intOf]; omega⟩
       rw [unhide HTE2]
       exact HE6
      ·have hlt3' : ¬ (e : Int) < (je.length : Int) := by omega
       obtain rfl : e = je.length := by omega
       have hE := unhide HE
       rw [List.take_length] at hE
       obtain ⟨va, vcap, hve, _⟩ := edRow_at hE
       subst hve
       have HE2 := hide hE
       clear HE hE
       obtain ⟨qs, hqs, hv0, hqe0, htw⟩ := (unhide HN).2.2
       have HQB : Hid (∀ q ∈ qs, ∀ j, q.2.ownBlock = some j → j < wr0.heap.size) := fun q hq j hj => ((hqe0 q hq).lt j hj).2
       have hv := hv0.below (unhide HBY)
       have hqe : ∀ q ∈ qs, EdRow wr _ q.2 q.1.ends := fun q hq => (hqe0 q hq).below (unhide HBY)
       have HTW := hide htw
       have hNy := (unhide HN).below (unhide HBY)
       have hBy := (unhide HB).below (unhide HBY)
       have hRy := (unhide HR).below (unhide HBY)
       dsimp only at hqs
       have hql : qs.length ≤ 1000000 := by
        have h1 := congrArg List.length hqs
        rw [List.length_map] at h1
        omega
       obtain ⟨ra, rcap, hre, _, _⟩ := hv.shape jvF_len
       subst hre
       have x1 := hNy.1.2.1 1 _ rfl
       have xz := hNy.1.2.2
       have xl := hNy.1.1
       have y0 := (unhide HX).2.1 0 _ rfl
       have y1 := (unhide HX).2.1 1 _ rfl
       have y2 := (unhide HX).2.1 2 _ rfl
       have yl := (unhide HX).1
       have HNY := hide hNy
       have HBy := hide hBy
       have HRy := hide hRy
       have HV := hide hv
       have HQE := hide hqe
       have HQS := hide hqs
       have hsz := (unhide HBY).size
       clear hNy hBy hRy hv hqe hqs htw hv0 hqe0
       go_wp2_with (at_builtin; refine wpList_append_lies _ rfl (.tmp 52) (.tmp 54) 24 rfl (w.heap.size + 1 + 1 + 1) 76 i3 (.agg #[.int .i64 0, .string ⟨#[]⟩, .slice none 0 0]) 3 48 Tryz.underlying24 hi3 hs0 hs1 hs2 rfl (by decide) _ qs.length (qs.flatMap jvF) rfl ((unhide HV).below bw0) ⟨wr.heap.size, 0, none⟩ 1 1 (jvF (⟨jk, jn, je⟩, .slice va je.length vcap)) rfl rfl (box_news (vs := jvF (⟨jk, jn, je⟩, .slice va je.length vcap)) (boxed_alloc _ _ _)) (jv_one _ _ _ _) (by omega) (by unfold maxLen; omega) (by omega) (by first | omega | (simp; omega)) _ rfl ?_)
       intro g cap w5 hown hgrow hat hlt5
       have hbX : Below wr.heap.size wr (wr.alloc (.cells #[.int .i64 jk, .string jn, .slice va je.length vcap] 76)) := bw0
       have hge : ∀ j, (Value.slice ra qs.length rcap).ownBlock = some j → w.heap.size + 1 + 1 + 1 ≤ j := fun j hj => ((unhide HV).lt j hj).1
       have hX5 := ((unhide HNY).1.below hbX).grownE hgrow (fun hc => by have := hge _ hc; omega)
       have f1 := hX5.2.1 1 _ rfl
       have fz := hX5.2.2
       have fl := hX5.1
       have HN6 := hide (((unhide HNY).below hbX).addJoint (j := ⟨jk, jn, je⟩) (by omega) hgrow (unhide HQS) ((unhide HV).below hbX) (fun q hq => (unhide HQE q hq).below hbX) (unhide HTW) (fun q hq j h1 h2 => by have g1 := unhide HQB q hq j h1; have g2 := ((unhide HE2).lt j h2).1; omega) (((unhide HE2).mono (by omega)).below hbX) (Row.snoc hown))
       have HB6 := hide ((((unhide HBy).below hbX).grownE hgrow (fun hc => by have := hge _ hc; omega)).apart (p := ⟨w.heap.size + 1 + 1, 1, none⟩) (show w.heap.size ≠ w.heap.size + 1 + 1 by omega) (.slice (some ⟨g, 0, none⟩) (qs.length + 1) cap))
       have HR6 := hide ((((unhide HRy).below hbX).grownE hgrow (fun hc => by have := hge _ hc; omega)).apart (p := ⟨w.heap.size + 1 + 1, 1, none⟩) (show w.heap.size + 1 ≠ w.heap.size + 1 + 1 by omega) (.slice (some ⟨g, 0, none⟩) (qs.length + 1) cap))
       have hbwX := below_then (below_then (unhide HBW) (unhide HBY)) hbX
       have HBW6 := hide ((Below.grown hbwX hgrow hbwX.size (fun j hj => by have := hge j hj; omega)).setCell (p := ⟨w.heap.size + 1 + 1, 1, none⟩) (show w.heap.size ≤ w.heap.size + 1 + 1 by omega) (.slice (some ⟨g, 0, none⟩) (qs.length + 1) cap))
       clear hown hgrow hat hlt5 hbX hge hX5 hbwX x1 xz xl y0 y1 y2 yl
       go_wp2_with fail
       refine ⟨⟨k + 1, .slice (some ⟨g, 0, none⟩) (qs.length + 1) cap, by omega, by go_num, ?_, HB6, HR6, HBW6⟩, by simp [intOf]; omega⟩
       rw [unhide HTK2]
       exact HN6
    ·have hlt2' : ¬ (k : Int) < (n.joints.length : Int) := by omega
     obtain rfl : k = n.joints.length := by omega
     have hN := unhide HN
     rw [List.take_length] at hN
     obtain ⟨pa, pcap, e1, _⟩ := pcRow_at hN.2.1
     obtain ⟨qa, qcap, e2, _⟩ := jtRow_at hN.2.2.row
     dsimp only at e1 e2
     subst e1
     subst e2
     have x0 := hN.1.2.1 0 _ rfl
     have x1 := hN.1.2.1 1 _ rfl
     have xl := hN.1.1
     have r0 := (unhide HR).2.1 0 _ rfl
     have r1 := (unhide HR).2.1 1 _ rfl
     have rz := (unhide HR).2.2
     have rl := (unhide HR).1
     have HN9 := hide hN
     clear hN HN
     go_wp2_with fail
     have hFin := ((unhide HR).setI (i := 0) (by simp) (.slice pa n.pieces.length pcap)).setI (i := 1) (by simp) (.slice qa n.joints.length qcap)
     have hOF := (only_setCell (S := fun k => k = w.heap.size + 1) wr (p := ⟨w.heap.size + 1, 0, none⟩) rfl (.slice pa n.pieces.length pcap)).trans (only_setCell (S := fun k => k = w.heap.size + 1) _ (p := ⟨w.heap.size + 1, 1, none⟩) rfl (.slice qa n.joints.length qcap))
     have f0 := hFin.2.1 0 _ rfl
     have f1 := hFin.2.1 1 _ rfl
     have hsame : ∀ k, w.heap.size + 1 + 1 + 1 ≤ k → k < wr.heap.size → _ := fun k hk hkl => hOF.block k hkl (by omega)
     refine bodyPost_ret (v := .agg #[.slice pa n.pieces.length pcap, .slice qa n.joints.length qcap]) (by simp [results, Tryz.results128, go_sem, f0, f1]) rfl ⟨_, _, rfl, ?_, ?_, (unhide HBW).trans (hOF.below (by have := (unhide HBW).size; omega) (fun k hk e => by omega))⟩
     ·exact ((unhide HN9).2.1.block fun k hk => hsame k ((unhide HN9).2.1.lt k hk).1 ((unhide HN9).2.1.lt k hk).2).mono (by omega)
     ·exact ((unhide HN9).2.2.blocks hsame).mono (by omega)

end Go.Proofs.YtbdggfpfpjijoaaGreatDoor

set_option linter.unusedSimpArgs false
namespace Go.Proofs.YtbdggfpfpjijoaaGreatDoor
open Go.RowKit

structure NtB (n : Nt) (K : Nat) : Prop where
 np : n.pieces.length ≤ K
 nj : n.joints.length ≤ K
 pn : ∀ p ∈ n.pieces, p.name.size ≤ K ∧ -100000000 ≤ p.len ∧ p.len ≤ 100000000
 je : ∀ j ∈ n.joints, j.ends.length ≤ K ∧ j.name.size ≤ K
theorem NtB.more {n : Nt} {K K' : Nat} (h : NtB n K) (hk : K ≤ K') : NtB n K' := ⟨Nat.le_trans h.np hk, Nat.le_trans h.nj hk, fun p hp => ⟨Nat.le_trans (h.pn p hp).1 hk, (h.pn p hp).2⟩, fun j hj => ⟨Nat.le_trans (h.je j hj).1 hk, Nat.le_trans (h.je j hj).2 hk⟩⟩
theorem NtB.addJ {n : Nt} {K : Nat} {j : Jt} (h : NtB n K) (he : j.ends.length ≤ K + 1) (hn : j.name.size ≤ K + 1) : NtB ⟨n.pieces, n.joints ++ [j]⟩ (K + 1) := by
 have h1 := h.more (Nat.le_succ K)
 refine ⟨h1.np, by have := h.nj; simp only [List.length_append, List.length_singleton]; omega, h1.pn, fun x hx => ?_⟩
 rcases List.mem_append.1 hx with h' | h'
 ·exact h1.je x h'
 ·simp at h'
  subst h'
  exact ⟨he, hn⟩
theorem NtB.addP {n : Nt} {K : Nat} {p : Pc} (h : NtB n K) (hn : p.name.size ≤ K + 1 ∧ -100000000 ≤ p.len ∧ p.len ≤ 100000000) : NtB ⟨n.pieces ++ [p], n.joints⟩ (K + 1) := by
 have h1 := h.more (Nat.le_succ K)
 refine ⟨by have := h.np; simp only [List.length_append, List.length_singleton]; omega, h1.nj, fun x hx => ?_, h1.je⟩
 rcases List.mem_append.1 hx with h' | h'
 ·exact h1.pn x h'
 ·simp at h'
  subst h'
  exact hn
theorem NtB.addPJ {n : Nt} {K : Nat} {p : Pc} {j : Jt} (h : NtB n K) (hn : p.name.size ≤ K + 1 ∧ -100000000 ≤ p.len ∧ p.len ≤ 100000000) (he : j.ends.length ≤ K + 1) (hj : j.name.size ≤ K + 1) : NtB ⟨n.pieces ++ [p], n.joints ++ [j]⟩ (K + 1) :=
 have h1 := h.addP hn
 have h2 := h.addJ he hj
 ⟨h1.np, h2.nj, h1.pn, h2.je⟩
def lenAt (w : World) (b o : Nat) : Nat := match w.cell? ⟨b, o, none⟩ with
 | some (.slice _ l _) => l
 | _ => 0
theorem lenAt_of {w : World} {b o : Nat} {a : Option Addr} {l c : Nat} (h : w.cell? ⟨b, o, none⟩ = some (.slice a l c)) : lenAt w b o = l := by
 unfold lenAt
 rw [h]
theorem owns_below {w w' : World} {base : Nat} {e : TypeId} {sz : Nat} {v : Value} {m : Nat} {xs : List Value} (h : w.ownsRow base e sz v m xs) (hb : Below w.heap.size w w') : w'.ownsRow base e sz v m xs := by
 obtain ⟨h0, h1 | ⟨g, cap, cur, h1, h2, hh, hr⟩⟩ := h
 ·exact ⟨h0, Or.inl h1⟩
 ·exact ⟨h0, Or.inr ⟨g, cap, cur, h1, h2, (hb.block g (Array.getElem?_eq_some_iff.1 hh).1).trans hh, hr⟩⟩
structure SpS (w0 : World) (C : Nat) (bs : List Int) (c : Cu) (u v : Value) (n : Nt) (w : World) : Prop where
 net : NetD w w0.heap.size (w0.heap.size + 1 + 1) u v n
 res : Boxed w (w0.heap.size + 1) [.slice none 0 0, .slice none 0 0]
 cur : CurAt w C bs c
 but : But (fun k => k = C) w0.heap.size w0 w
 lt : C < w0.heap.size
theorem NetD.blocks {w w' : World} {X base : Nat} {u v : Value} {n : Nt} (h : NetD w X base u v n) (hs : w.heap.size ≤ w'.heap.size) (hX : w'.heap[X]? = w.heap[X]?) (hb : ∀ k, base ≤ k → k < w.heap.size → w'.heap[k]? = w.heap[k]?) : NetD w' X base u v n :=
 ⟨h.1.blk hs hX, h.2.1.block fun k hk => hb k (h.2.1.lt k hk).1 (h.2.1.lt k hk).2, h.2.2.blocks hb⟩
theorem SpS.pick {w0 : World} {C : Nat} {bs : List Int} {c c' : Cu} {u v : Value} {n : Nt} {w w' : World} (h : SpS w0 C bs c u v n w) (hc : CurAt w' C bs c') (ho : Only (fun k => k = C) w w') : SpS w0 C bs c' u v n w' := by
 have hlt := h.lt
 have hX := h.net.1.1
 have hR := h.res.1
 exact ⟨h.net.blocks ho.size (ho.block _ hX (fun e => by omega)) (fun k hk hk' => ho.block k hk' (fun e => by omega)), h.res.blk ho.size (ho.block _ hR (fun e => by omega)), hc, h.but.trans (but_only ho (fun k _ h => h) h.but.size), h.lt⟩
theorem SpS.below {w0 : World} {C : Nat} {bs : List Int} {c : Cu} {u v : Value} {n : Nt} {w w' : World} (h : SpS w0 C bs c u v n w) (hb : Below w.heap.size w w') : SpS w0 C bs c u v n w' :=
 ⟨h.net.below hb, h.res.below hb, h.cur.of_below hb h.cur.lt, h.but.trans (but_below hb h.but.size), h.lt⟩
theorem SpS.setP {w0 : World} {C : Nat} {bs : List Int} {c : Cu} {u v u' : Value} {n : Nt} {ps : List Pc} {w : World} (h : SpS w0 C bs c u v n w) (hp : PcRow w (w0.heap.size + 1 + 1) u' ps) : SpS w0 C bs c u' v ⟨ps, n.joints⟩ (w.setCell ⟨w0.heap.size, 0, none⟩ u') := by
 have hlt := h.lt
 have ho : Only (fun k => k = w0.heap.size) w (w.setCell ⟨w0.heap.size, 0, none⟩ u') := only_setCell (S := fun k => k = w0.heap.size) w (p := ⟨w0.heap.size, 0, none⟩) rfl u'
 have hR := h.res.1
 exact ⟨⟨h.net.1.setI (i := 0) (by simp) u', hp.setCell (p := ⟨w0.heap.size, 0, none⟩) (show w0.heap.size < _ by omega) u', h.net.2.2.blocks fun k hk hk' => ho.block k hk' (fun e => by omega)⟩, h.res.blk ho.size (ho.block _ hR (fun e => by omega)), h.cur.of_below (ho.below (B := w0.heap.size) h.but.size (fun k hk e => by omega)) hlt, h.but.trans (but_only ho (fun k hk e => by omega) h.but.size), h.lt⟩
theorem SpS.setJ {w0 : World} {C : Nat} {bs : List Int} {c : Cu} {u v v' : Value} {n : Nt} {js : List Jt} {w : World} (h : SpS w0 C bs c u v n w) (hj : JtD w (w0.heap.size + 1 + 1) v' js) : SpS w0 C bs c u v' ⟨n.pieces, js⟩ (w.setCell ⟨w0.heap.size, 1, none⟩ v') := by
 have hlt := h.lt
 have ho : Only (fun k => k = w0.heap.size) w (w.setCell ⟨w0.heap.size, 1, none⟩ v') := only_setCell (S := fun k => k = w0.heap.size) w (p := ⟨w0.heap.size, 1, none⟩) rfl v'
 have hR := h.res.1
 exact ⟨⟨h.net.1.setI (i := 1) (by simp) v', h.net.2.1.setCell (p := ⟨w0.heap.size, 1, none⟩) (show w0.heap.size < _ by omega) v', hj.blocks fun k hk hk' => ho.block k hk' (fun e => by omega)⟩, h.res.blk ho.size (ho.block _ hR (fun e => by omega)), h.cur.of_below (ho.below (B := w0.heap.size) h.but.size (fun k hk e => by omega)) hlt, h.but.trans (but_only ho (fun k hk e => by omega) h.but.size), h.lt⟩
theorem Row.cut {α : Type} {w : World} {base g m cap : Nat} {e : TypeId} {sz : Nat} {f : α → List Value} {xs : List α} (hf : ∀ x, (f x).length = sz) (h : Row w base e sz f (.slice (some ⟨g, 0, none⟩) m cap) xs) (k : Nat) (hk : k ≤ xs.length) : Row w base e sz f (.slice (some ⟨g, 0, none⟩) k cap) (xs.take k) := by
 obtain ⟨h0, ⟨h1, _⟩ | ⟨g', cap', cur, h1, hb, hh, hc, hm, hs, ht⟩⟩ := h
 ·simp at h1
 ·simp only [Value.slice.injEq, Option.some.injEq, Addr.mk.injEq, and_true] at h1
  obtain ⟨rfl, rfl, rfl⟩ := h1
  have hl : (xs.take k).length = k := by rw [List.length_take]; omega
  refine ⟨flat_len hf _, Or.inr ⟨g, cap, cur, by rw [hl], hb, hh, by omega, hm, hs, ?_⟩⟩
  have hkl : k * sz ≤ xs.length * sz := Nat.mul_le_mul_right sz hk
  rw [hl, ← Nat.min_eq_left hkl, ← List.take_take, ht]
  have hsp : xs.flatMap f = (xs.take k).flatMap f ++ (xs.drop k).flatMap f := by rw [← List.flatMap_append, List.take_append_drop]
  have hkf : ((xs.take k).flatMap f).length = k * sz := by rw [flat_len hf, hl]
  rw [hsp, ← hkf, List.take_append_of_le_length (Nat.le_refl _), List.take_length]
theorem JtD.cut {w : World} {base g m cap : Nat} {js : List Jt} (h : JtD w base (.slice (some ⟨g, 0, none⟩) m cap) js) (k : Nat) (hk : k ≤ js.length) : JtD w base (.slice (some ⟨g, 0, none⟩) k cap) (js.take k) := by
 obtain ⟨qs, rfl, h1, h2, h3⟩ := h
 refine ⟨qs.take k, by rw [List.map_take], h1.cut jvF_len k (by simpa using hk), fun q hq => h2 q (List.mem_of_mem_take hq), h3.sublist (List.take_sublist k qs)⟩
theorem SpS.grownLow {w0 : World} {C : Nat} {bs : List Int} {c : Cu} {u v : Value} {n : Nt} {w w2 : World} {r : Option Nat} (h : SpS w0 C bs c u v n w) (hg : w.grownBy w2 r) (hr : ∀ k, r = some k → w0.heap.size + 1 + 1 ≤ k) (i : Nat) (x : Value) : Boxed (w2.setCell ⟨w0.heap.size, i, none⟩ x) (w0.heap.size + 1) [.slice none 0 0, .slice none 0 0] ∧ CurAt (w2.setCell ⟨w0.heap.size, i, none⟩ x) C bs c ∧ But (fun k => k = C) w0.heap.size w0 (w2.setCell ⟨w0.heap.size, i, none⟩ x) := by
 have hlt := h.lt
 have hb : Below w0.heap.size w (w2.setCell ⟨w0.heap.size, i, none⟩ x) := (Below.grown (Below.refl _ w) hg h.but.size (fun k hk => by have := hr k hk; omega)).setCell (p := ⟨w0.heap.size, i, none⟩) (Nat.le_refl _) x
 exact ⟨(h.res.grownE hg (fun hc => by have := hr _ hc; omega)).apart (p := ⟨w0.heap.size, i, none⟩) (show w0.heap.size + 1 ≠ w0.heap.size by omega) x, h.cur.of_below hb hlt, h.but.trans (but_below hb (Nat.le_refl _))⟩
theorem SpS.addPiece {w0 : World} {C : Nat} {bs : List Int} {c : Cu} {u v v' : Value} {n : Nt} {p : Pc} {w w2 : World} (h : SpS w0 C bs c u v n w) (hg : w.grownBy w2 u.ownBlock) (hown : PcRow w2 (w0.heap.size + 1 + 1) v' (n.pieces ++ [p])) : SpS w0 C bs c v' v ⟨n.pieces ++ [p], n.joints⟩ (w2.setCell ⟨w0.heap.size, 0, none⟩ v') := by
 obtain ⟨h1, h2, h3⟩ := h.grownLow hg (fun k hk => (h.net.2.1.lt k hk).1) 0 v'
 exact ⟨h.net.addPiece (by omega) hg hown, h1, h2, h3, h.lt⟩
theorem SpS.addJoint {w0 : World} {C : Nat} {bs : List Int} {c : Cu} {u v v' ev : Value} {n : Nt} {j : Jt} {qs : List (Jt × Value)} {w w2 : World} (h : SpS w0 C bs c u v n w) (hg : w.grownBy w2 v.ownBlock) (hqs : qs.map Prod.fst = n.joints) (hv : JvRow w (w0.heap.size + 1 + 1) v qs) (hqe : ∀ q ∈ qs, EdRow w (w0.heap.size + 1 + 1) q.2 q.1.ends) (htw : TwoJ qs) (hfr : ∀ q ∈ qs, ∀ k, q.2.ownBlock = some k → ev.ownBlock ≠ some k) (hev : EdRow w (w0.heap.size + 1 + 1) ev j.ends) (hown : JvRow w2 (w0.heap.size + 1 + 1) v' (qs ++ [(j, ev)])) : SpS w0 C bs c u v' ⟨n.pieces, n.joints ++ [j]⟩ (w2.setCell ⟨w0.heap.size, 1, none⟩ v') := by
 obtain ⟨h1, h2, h3⟩ := h.grownLow hg (fun k hk => (hv.lt k hk).1) 1 v'
 exact ⟨h.net.addJoint (by omega) hg hqs hv hqe htw hfr hev hown, h1, h2, h3, h.lt⟩
theorem owns_set {w : World} {base : Nat} {e : TypeId} {sz g m n cap : Nat} {xs : List Value} (h : w.ownsRow base e sz (.slice (some ⟨g, 0, none⟩) m cap) n xs) (k : Nat) (u : Value) : (w.setCell ⟨g, k, none⟩ u).ownsRow base e sz (.slice (some ⟨g, 0, none⟩) m cap) n (xs.set k u) := by
 obtain ⟨h0, ⟨h1, _⟩ | ⟨g', cap', cur, h1, hb, hh, hc, hm, hs, ht⟩⟩ := h
 ·simp at h1
 ·simp only [Value.slice.injEq, Option.some.injEq, Addr.mk.injEq, and_true] at h1
  obtain ⟨rfl, rfl, rfl⟩ := h1
  refine ⟨by simpa using h0, Or.inr ⟨g, cap, cur.setIfInBounds k u, rfl, hb, ?_, hc, hm, by simpa using hs, ?_⟩⟩
  ·simp [World.setCell, Array.getElem?_modify, hh]
  ·rw [Array.toList_setIfInBounds, List.take_set, ht]
theorem flat_set {α : Type} {f : α → List Value} {sz : Nat} (hf : ∀ x, (f x).length = sz) (y : α) (u : Value) (j : Nat) (hj : j < sz) : ∀ (xs : List α) (k : Nat) (hk : k < xs.length), f y = (f xs[k]).set j u → (xs.flatMap f).set (k * sz + j) u = (xs.set k y).flatMap f
 | [], k, hk, _ => absurd hk (by simp)
 | x :: r, 0, _, hy => by
  simp only [List.flatMap_cons, List.set_cons_zero, Nat.zero_mul, Nat.zero_add]
  rw [hy, List.set_append_left _ _ (by rw [hf]; exact hj)]
  rfl
 | x :: r, k + 1, hk, hy => by
  have ih := flat_set hf y u j hj r k (by simpa using hk) (by simpa using hy)
  simp only [List.flatMap_cons, List.set_cons_succ]
  rw [← ih, List.set_append_right _ _ (by rw [hf]; have : sz ≤ (k + 1) * sz := Nat.le_mul_of_pos_left sz (by omega); omega), hf]
  congr 2
  rw [Nat.add_mul, Nat.one_mul]
  omega
theorem Row.put {α : Type} {w : World} {base g m cap : Nat} {e : TypeId} {sz : Nat} {f : α → List Value} {xs : List α} (hf : ∀ x, (f x).length = sz) (h : Row w base e sz f (.slice (some ⟨g, 0, none⟩) m cap) xs) {k : Nat} (hk : k < xs.length) {j : Nat} (hj : j < sz) (y : α) (u : Value) (hy : f y = (f xs[k]).set j u) : Row (w.setCell ⟨g, k * sz + j, none⟩ u) base e sz f (.slice (some ⟨g, 0, none⟩) m cap) (xs.set k y) := by
 have h5 := owns_set h (k * sz + j) u
 show World.ownsRow _ _ _ _ _ (xs.set k y).length _
 rw [List.length_set, ← flat_set hf y u j hj xs k hk hy]
 exact h5
theorem SpS.putP {w0 : World} {C : Nat} {bs : List Int} {c : Cu} {v : Value} {g m cap : Nat} {n : Nt} {w : World} (h : SpS w0 C bs c (.slice (some ⟨g, 0, none⟩) m cap) v n w) {k : Nat} (hk : k < n.pieces.length) {j : Nat} (hj : j < 4) (y : Pc) (u : Value) (hy : pcF y = (pcF n.pieces[k]).set j u) : SpS w0 C bs c (.slice (some ⟨g, 0, none⟩) m cap) v ⟨n.pieces.set k y, n.joints⟩ (w.setCell ⟨g, k * 4 + j, none⟩ u) := by
 have hlt := h.lt
 have hg := h.net.2.1.lt g rfl
 obtain ⟨_, ⟨h1, _⟩ | ⟨g', cap', cur, h1, _, hh, _⟩⟩ := h.net.2.1
 ·simp at h1
 ·simp only [Value.slice.injEq, Option.some.injEq, Addr.mk.injEq, and_true] at h1
  obtain ⟨rfl, _, _⟩ := h1
  have ho : Only (fun k => k = g) w (w.setCell ⟨g, k * 4 + j, none⟩ u) := only_setCell (S := fun k => k = g) w (p := ⟨g, k * 4 + j, none⟩) rfl u
  have hX := h.net.1.1
  have hR := h.res.1
  have ne : ∀ {α : Type} {e' : TypeId} {sz : Nat} {f : α → List Value} {v' : Value} {ys : List α}, Row w (w0.heap.size + 1 + 1) e' sz f v' ys → e' ≠ 134 → ∀ k, v'.ownBlock = some k → k ≠ g := by
   intro α e' sz f v' ys hr he k hk e
   subst e
   obtain ⟨_, ⟨rfl, _⟩ | ⟨g2, cap2, cur2, rfl, _, hh2, _⟩⟩ := hr
   ·simp [Value.ownBlock] at hk
   ·simp [Value.ownBlock] at hk
    subst hk
    rw [hh] at hh2
    simp at hh2
    exact he hh2.2.symm
  obtain ⟨qs, q1, q2, q3, q4⟩ := h.net.2.2
  refine ⟨⟨h.net.1.blk ho.size (ho.block _ hX (fun e => by omega)), h.net.2.1.put pcF_len hk hj y u hy, ⟨qs, q1, q2.block fun k hk => ho.block k (q2.lt k hk).2 (ne q2 (by decide) k hk), fun q hq => (q3 q hq).block fun k hk => ho.block k ((q3 q hq).lt k hk).2 (ne (q3 q hq) (by decide) k hk), q4⟩⟩, h.res.blk ho.size (ho.block _ hR (fun e => by omega)), h.cur.of_below (ho.below (B := w0.heap.size) h.but.size (fun k hk e => by omega)) hlt, h.but.trans (but_only ho (fun k hk e => by omega) h.but.size), h.lt⟩
theorem Row.free {α : Type} {w : World} {base g m cap : Nat} {e : TypeId} {sz : Nat} {f : α → List Value} {xs : List α} (h : Row w base e sz f (.slice (some ⟨g, 0, none⟩) m cap) xs) (j : Nat) : w.frozen? ⟨g, j, none⟩ = false := by
 obtain ⟨_, ⟨h1, _⟩ | ⟨g', cap', cur, h1, _, hh, _⟩⟩ := h
 ·simp at h1
 ·simp only [Value.slice.injEq, Option.some.injEq, Addr.mk.injEq, and_true] at h1
  obtain ⟨rfl, _, _⟩ := h1
  simp [World.frozen?, hh]
theorem NtB.putP {n : Nt} {K : Nat} (h : NtB n K) {k : Nat} (_hk : k < n.pieces.length) (y : Pc) (hn : y.name.size ≤ K + 300 ∧ -100000000 ≤ y.len ∧ y.len ≤ 100000000) : NtB ⟨n.pieces.set k y, n.joints⟩ (K + 300) := by
 have h1 := h.more (show K ≤ K + 300 by omega)
 refine ⟨by rw [List.length_set]; exact h1.np, h1.nj, fun p hp => ?_, h1.je⟩
 rcases List.mem_or_eq_of_mem_set hp with h' | h'
 ·exact h1.pn p h'
 ·rw [h']; exact hn

end Go.Proofs.YtbdggfpfpjijoaaGreatDoor

set_option linter.unusedSimpArgs false
namespace Go.Proofs.YtbdggfpfpjijoaaGreatDoor
open Go.RowKit

theorem flat_same {α : Type} {f : α → List Value} (y : α) : ∀ (xs : List α) (k : Nat) (hk : k < xs.length), f y = f xs[k] → (xs.set k y).flatMap f = xs.flatMap f
 | [], k, hk, _ => absurd hk (by simp)
 | x :: r, 0, _, hy => by
  simp only [List.flatMap_cons, List.set_cons_zero]
  rw [hy]
  rfl
 | x :: r, k + 1, hk, hy => by
  simp only [List.flatMap_cons, List.set_cons_succ]
  rw [flat_same y r k (by simpa using hk) (by simpa using hy)]
theorem twoJ_set {qs : List (Jt × Value)} (h : TwoJ qs) {k : Nat} (y : Jt × Value) (hy : ∀ i (hi : i < qs.length), i ≠ k → ∀ b, qs[i].2.ownBlock = some b → y.2.ownBlock ≠ some b) : TwoJ (qs.set k y) := by
 refine List.pairwise_iff_getElem.2 fun i j hi hj hij => ?_
 have hp := List.pairwise_iff_getElem.1 h
 simp only [List.length_set] at hi hj
 simp only [List.getElem_set]
 by_cases e1 : k = i
 ·subst e1
  rw [if_pos rfl, if_neg (by omega)]
  intro b h1 h2
  exact hy j hj (by omega) b h2 h1
 ·rw [if_neg e1]
  by_cases e2 : k = j
  ·rw [if_pos e2]
   intro b h1 h2
   exact hy i hi (fun e => e1 e.symm) b h1 h2
  ·rw [if_neg e2]
   exact hp i j hi hj hij
structure SpJ (w0 : World) (C : Nat) (bs : List Int) (c : Cu) (u v : Value) (n : Nt) (qs : List (Jt × Value)) (k : Nat) (w : World) : Prop where
 box : Boxed w w0.heap.size [u, v]
 pcs : PcRow w (w0.heap.size + 1 + 1) u n.pieces
 jv : JvRow w (w0.heap.size + 1 + 1) v qs
 ends : ∀ i (hi : i < qs.length), i ≠ k → EdRow w (w0.heap.size + 1 + 1) qs[i].2 qs[i].1.ends
 two : TwoJ qs
 map : qs.map Prod.fst = n.joints
 res : Boxed w (w0.heap.size + 1) [.slice none 0 0, .slice none 0 0]
 cur : CurAt w C bs c
 but : But (fun k => k = C) w0.heap.size w0 w
 lt : C < w0.heap.size
theorem SpS.opened {w0 : World} {C : Nat} {bs : List Int} {c : Cu} {u v : Value} {n : Nt} {w : World} (h : SpS w0 C bs c u v n w) {k : Nat} (hk : k < n.joints.length) : ∃ (qs : List (Jt × Value)) (hq : k < qs.length), SpJ w0 C bs c u v n qs k w ∧ EdRow w (w0.heap.size + 1 + 1) qs[k].2 qs[k].1.ends ∧ qs[k].1 = n.joints[k] := by
 obtain ⟨qs, e, h1, h2, h3⟩ := h.net.2.2
 have hq : k < qs.length := by rw [← e, List.length_map] at hk; exact hk
 refine ⟨qs, hq, ⟨h.net.1, h.net.2.1, h1, fun i hi _ => h2 _ (List.getElem_mem hi), h3, e, h.res, h.cur, h.but, h.lt⟩, h2 _ (List.getElem_mem hq), ?_⟩
 simp only [← e, List.getElem_map]
theorem SpJ.closed {w0 : World} {C : Nat} {bs : List Int} {c : Cu} {u v : Value} {n : Nt} {qs : List (Jt × Value)} {k : Nat} {w : World} (h : SpJ w0 C bs c u v n qs k w) (he : ∀ hk : k < qs.length, EdRow w (w0.heap.size + 1 + 1) qs[k].2 qs[k].1.ends) : SpS w0 C bs c u v n w := by
 refine ⟨⟨h.box, h.pcs, qs, h.map, h.jv, fun q hq => ?_, h.two⟩, h.res, h.cur, h.but, h.lt⟩
 obtain ⟨i, hi, rfl⟩ := List.getElem_of_mem hq
 by_cases e : i = k
 ·subst e
  exact he hi
 ·exact h.ends i hi e
theorem SpJ.turned {w0 : World} {C : Nat} {bs : List Int} {c : Cu} {u v : Value} {n : Nt} {qs : List (Jt × Value)} {k : Nat} {w w2 : World} (h : SpJ w0 C bs c u v n qs k w) (hk : k < qs.length) (he : EdRow w (w0.heap.size + 1 + 1) qs[k].2 qs[k].1.ends) (hs : w.heap.size ≤ w2.heap.size) (hbl : Below w0.heap.size w w2) (hb : ∀ j, j < w.heap.size → qs[k].2.ownBlock ≠ some j → w2.heap[j]? = w.heap[j]?) : SpJ w0 C bs c u v n qs k w2 := by
 have hlt := h.lt
 have hlow : ∀ j, j < w0.heap.size + 1 + 1 → j < w.heap.size → w2.heap[j]? = w.heap[j]? := fun j hj hj' => hb j hj' (fun e => by have := (he.lt j e).1; omega)
 have hX := h.box.1
 have hR := h.res.1
 refine ⟨h.box.blk hs (hlow _ (by omega) hX), h.pcs.block fun j hj => hb j (h.pcs.lt j hj).2 (fun e => Row.apart h.pcs he (by decide) j hj e), h.jv.block fun j hj => hb j (h.jv.lt j hj).2 (fun e => Row.apart h.jv he (by decide) j hj e), fun i hi hik => (h.ends i hi hik).block fun j hj => hb j ((h.ends i hi hik).lt j hj).2 (fun e => ?_), h.two, h.map, h.res.blk hs (hlow _ (by omega) hR), h.cur.of_below hbl hlt, h.but.trans (but_below hbl (Nat.le_refl _)), h.lt⟩
 have hp := List.pairwise_iff_getElem.1 h.two
 rcases Nat.lt_or_gt_of_ne hik with h' | h'
 ·exact hp i k hi hk h' j hj e
 ·exact hp k i hk hi h' j e hj
theorem SpJ.put {w0 : World} {C : Nat} {bs : List Int} {c : Cu} {u : Value} {g m cap : Nat} {n : Nt} {qs : List (Jt × Value)} {k : Nat} {w : World} (h : SpJ w0 C bs c u (.slice (some ⟨g, 0, none⟩) m cap) n qs k w) (hk : k < qs.length) {j : Nat} (hj : j < 3) (y : Jt × Value) (x : Value) (hy : jvF y = (jvF qs[k]).set j x) (ht : TwoJ (qs.set k y)) : SpJ w0 C bs c u (.slice (some ⟨g, 0, none⟩) m cap) ⟨n.pieces, n.joints.set k y.1⟩ (qs.set k y) k (w.setCell ⟨g, k * 3 + j, none⟩ x) := by
 have hlt := h.lt
 have hg := h.jv.lt g rfl
 have ho : Only (fun k => k = g) w (w.setCell ⟨g, k * 3 + j, none⟩ x) := only_setCell (S := fun k => k = g) w (p := ⟨g, k * 3 + j, none⟩) rfl x
 have hX := h.box.1
 have hR := h.res.1
 refine ⟨h.box.blk ho.size (ho.block _ hX (fun e => by omega)), h.pcs.block fun i hi => ho.block i (h.pcs.lt i hi).2 (fun e => Row.apart h.pcs h.jv (by decide) i hi (by rw [e]; rfl)), h.jv.put jvF_len hk hj y x hy, fun i hi hik => ?_, ht, by rw [List.map_set, h.map], h.res.blk ho.size (ho.block _ hR (fun e => by omega)), h.cur.of_below (ho.below (B := w0.heap.size) h.but.size (fun k hk e => by omega)) hlt, h.but.trans (but_only ho (fun k hk e => by omega) h.but.size), h.lt⟩
 simp only [List.length_set] at hi
 have hed := h.ends i hi hik
 simp only [List.getElem_set, if_neg (Ne.symm hik)]
 exact hed.block fun b hb => ho.block b (hed.lt b hb).2 (fun e => Row.apart hed h.jv (by decide) b hb (by rw [e]; rfl))
theorem SpJ.told {w0 : World} {C : Nat} {bs : List Int} {c : Cu} {u v : Value} {n : Nt} {qs : List (Jt × Value)} {k : Nat} {w : World} (h : SpJ w0 C bs c u v n qs k w) (hk : k < qs.length) (y : Jt × Value) (hy : jvF y = jvF qs[k]) (ht : TwoJ (qs.set k y)) : SpJ w0 C bs c u v ⟨n.pieces, n.joints.set k y.1⟩ (qs.set k y) k w := by
 refine ⟨h.box, h.pcs, ?_, fun i hi hik => ?_, ht, by rw [List.map_set, h.map], h.res, h.cur, h.but, h.lt⟩
 ·have := h.jv
  show World.ownsRow _ _ _ _ _ (qs.set k y).length _
  rw [List.length_set, flat_same y qs k hk hy]
  exact this
 ·simp only [List.length_set] at hi
  simp only [List.getElem_set, if_neg (Ne.symm hik)]
  exact h.ends i hi hik
theorem two_apart {qs : List (Jt × Value)} (h : TwoJ qs) {k : Nat} (hk : k < qs.length) : ∀ i (hi : i < qs.length), i ≠ k → ∀ b, qs[i].2.ownBlock = some b → qs[k].2.ownBlock ≠ some b := by
 intro i hi hik b h1 h2
 have hp := List.pairwise_iff_getElem.1 h
 rcases Nat.lt_or_gt_of_ne hik with h' | h'
 ·exact hp i k hi hk h' b h1 h2
 ·exact hp k i hk hi h' b h2 h1
theorem SpJ.putK {w0 : World} {C : Nat} {bs : List Int} {c : Cu} {u : Value} {g m cap : Nat} {n : Nt} {qs : List (Jt × Value)} {k : Nat} {w : World} (h : SpJ w0 C bs c u (.slice (some ⟨g, 0, none⟩) m cap) n qs k w) (hk : k < qs.length) {j : Nat} (hj : j < 3) (y : Jt × Value) (x : Value) (hy : jvF y = (jvF qs[k]).set j x) (he : EdRow w (w0.heap.size + 1 + 1) y.2 y.1.ends) (hd : ∀ i (hi : i < qs.length), i ≠ k → ∀ b, qs[i].2.ownBlock = some b → y.2.ownBlock ≠ some b) : SpS w0 C bs c u (.slice (some ⟨g, 0, none⟩) m cap) ⟨n.pieces, n.joints.set k y.1⟩ (w.setCell ⟨g, k * 3 + j, none⟩ x) := by
 refine (h.put hk hj y x hy (twoJ_set h.two y hd)).closed fun hk' => ?_
 simp only [List.getElem_set_self]
 have ho : Only (fun k => k = g) w (w.setCell ⟨g, k * 3 + j, none⟩ x) := only_setCell (S := fun k => k = g) w (p := ⟨g, k * 3 + j, none⟩) rfl x
 exact he.block fun b hb => ho.block b (he.lt b hb).2 (fun e => Row.apart he h.jv (by decide) b hb (by rw [e]; rfl))
theorem SpJ.cells {w0 : World} {C : Nat} {bs : List Int} {c : Cu} {u : Value} {g m cap : Nat} {n : Nt} {qs : List (Jt × Value)} {k : Nat} {w : World} (h : SpJ w0 C bs c u (.slice (some ⟨g, 0, none⟩) m cap) n qs k w) (hk : k < qs.length) : w.cell? ⟨g, k * 3, none⟩ = some (.int .i64 qs[k].1.kind) ∧ w.cell? ⟨g, k * 3 + 1, none⟩ = some (.string qs[k].1.name) ∧ w.cell? ⟨g, k * 3 + 2, none⟩ = some qs[k].2 := by
 obtain ⟨a, cap', e, _, hc⟩ := h.jv.shape jvF_len
 simp only [Value.slice.injEq] at e
 obtain ⟨g', h1, _, hcell⟩ := hc k hk
 rw [← e.1] at h1
 simp only [Option.some.injEq, Addr.mk.injEq, and_true] at h1
 subst h1
 exact ⟨by simpa [jvF] using hcell 0 (by omega), by simpa [jvF] using hcell 1 (by omega), by simpa [jvF] using hcell 2 (by omega)⟩
theorem SpS.jt {w0 : World} {C : Nat} {bs : List Int} {c : Cu} {u : Value} {g m cap : Nat} {n : Nt} {w : World} (h : SpS w0 C bs c u (.slice (some ⟨g, 0, none⟩) m cap) n w) {k : Nat} (hk : k < n.joints.length) : ∃ ea ecap, w.cell? ⟨g, k * 3, none⟩ = some (.int .i64 n.joints[k].kind) ∧ w.cell? ⟨g, k * 3 + 1, none⟩ = some (.string n.joints[k].name) ∧ w.cell? ⟨g, k * 3 + 2, none⟩ = some (.slice ea n.joints[k].ends.length ecap) ∧ EdRow w (w0.heap.size + 1 + 1) (.slice ea n.joints[k].ends.length ecap) n.joints[k].ends ∧ g < w.heap.size ∧ (∀ j, w.frozen? ⟨g, j, none⟩ = false) := by
 obtain ⟨qs, hq, hJ, hE, he⟩ := h.opened hk
 obtain ⟨c0, c1, c2⟩ := hJ.cells hq
 rw [he] at c0 c1 hE
 obtain ⟨ea, ecap, e2, _⟩ := edRow_at hE
 rw [e2] at c2 hE
 exact ⟨ea, ecap, c0, c1, c2, hE, (hJ.jv.lt g rfl).2, hJ.jv.free⟩
theorem SpS.putKind {w0 : World} {C : Nat} {bs : List Int} {c : Cu} {u : Value} {g m cap : Nat} {n : Nt} {w : World} (h : SpS w0 C bs c u (.slice (some ⟨g, 0, none⟩) m cap) n w) {k : Nat} (hk : k < n.joints.length) (x : Int) : SpS w0 C bs c u (.slice (some ⟨g, 0, none⟩) m cap) ⟨n.pieces, n.joints.set k ⟨x, n.joints[k].name, n.joints[k].ends⟩⟩ (w.setCell ⟨g, k * 3, none⟩ (.int .i64 x)) := by
 obtain ⟨qs, hq, hJ, hE, he⟩ := h.opened hk
 rw [← he]
 exact hJ.putK hq (j := 0) (by omega) (⟨x, qs[k].1.name, qs[k].1.ends⟩, qs[k].2) _ rfl hE (two_apart hJ.two hq)
theorem SpS.putName {w0 : World} {C : Nat} {bs : List Int} {c : Cu} {u : Value} {g m cap : Nat} {n : Nt} {w : World} (h : SpS w0 C bs c u (.slice (some ⟨g, 0, none⟩) m cap) n w) {k : Nat} (hk : k < n.joints.length) (x : ByteArray) : SpS w0 C bs c u (.slice (some ⟨g, 0, none⟩) m cap) ⟨n.pieces, n.joints.set k ⟨n.joints[k].kind, x, n.joints[k].ends⟩⟩ (w.setCell ⟨g, k * 3 + 1, none⟩ (.string x)) := by
 obtain ⟨qs, hq, hJ, hE, he⟩ := h.opened hk
 rw [← he]
 exact hJ.putK hq (j := 1) (by omega) (⟨qs[k].1.kind, x, qs[k].1.ends⟩, qs[k].2) _ rfl hE (two_apart hJ.two hq)
theorem SpS.putNil {w0 : World} {C : Nat} {bs : List Int} {c : Cu} {u : Value} {g m cap : Nat} {n : Nt} {w : World} (h : SpS w0 C bs c u (.slice (some ⟨g, 0, none⟩) m cap) n w) {k : Nat} (hk : k < n.joints.length) : SpS w0 C bs c u (.slice (some ⟨g, 0, none⟩) m cap) ⟨n.pieces, n.joints.set k ⟨n.joints[k].kind, n.joints[k].name, []⟩⟩ (w.setCell ⟨g, k * 3 + 2, none⟩ (.slice none 0 0)) := by
 obtain ⟨qs, hq, hJ, hE, he⟩ := h.opened hk
 rw [← he]
 exact hJ.putK hq (j := 2) (by omega) (⟨qs[k].1.kind, qs[k].1.name, []⟩, .slice none 0 0) _ rfl (Row.nil _ _ _ _ _) (fun _ _ _ b _ e => by simp [Value.ownBlock] at e)
theorem SpS.putEnd {w0 : World} {C : Nat} {bs : List Int} {c : Cu} {u : Value} {g m cap b el ecap : Nat} {n : Nt} {w : World} (h : SpS w0 C bs c u (.slice (some ⟨g, 0, none⟩) m cap) n w) {k : Nat} (hk : k < n.joints.length) (hev : w.cell? ⟨g, k * 3 + 2, none⟩ = some (.slice (some ⟨b, 0, none⟩) el ecap)) {i : Nat} (hi : i < n.joints[k].ends.length) (p s : Int) : SpS w0 C bs c u (.slice (some ⟨g, 0, none⟩) m cap) ⟨n.pieces, n.joints.set k ⟨n.joints[k].kind, n.joints[k].name, n.joints[k].ends.set i ⟨p, s⟩⟩⟩ ((w.setCell ⟨b, i * 2, none⟩ (.int .i64 p)).setCell ⟨b, i * 2 + 1, none⟩ (.int .i64 s)) := by
 obtain ⟨qs, hq, hJ, hE, he⟩ := h.opened hk
 have c2 := (hJ.cells hq).2.2
 rw [hev] at c2
 simp only [Option.some.injEq] at c2
 have hE' := hE
 rw [← c2] at hE'
 rw [← he] at hi ⊢
 have ho : Only (fun j => j = b) w ((w.setCell ⟨b, i * 2, none⟩ (.int .i64 p)).setCell ⟨b, i * 2 + 1, none⟩ (.int .i64 s)) := (only_setCell (S := fun j => j = b) w (p := ⟨b, i * 2, none⟩) rfl _).trans (only_setCell (S := fun j => j = b) _ (p := ⟨b, i * 2 + 1, none⟩) rfl _)
 have hT := hJ.turned hq hE ho.size (ho.below (B := w0.heap.size) hJ.but.size (fun j hj e => by have := (hE'.lt b rfl).1; omega)) (fun j hj hne => ho.block j hj (fun e => hne (by rw [← c2, e]; rfl)))
 have ht : TwoJ (qs.set k (⟨qs[k].1.kind, qs[k].1.name, qs[k].1.ends.set i ⟨p, s⟩⟩, qs[k].2)) := twoJ_set hJ.two _ (two_apart hJ.two hq)
 refine (hT.told hq (⟨qs[k].1.kind, qs[k].1.name, qs[k].1.ends.set i ⟨p, s⟩⟩, qs[k].2) rfl ht).closed fun _ => ?_
 simp only [List.getElem_set_self]
 rw [← c2]
 have e1 := hE'.put edF_len hi (j := 0) (by omega) (⟨p, qs[k].1.ends[i].side⟩ : Ed) (.int .i64 p) rfl
 have e2 := e1.put edF_len (k := i) (by rw [List.length_set]; exact hi) (j := 1) (by omega) (⟨p, s⟩ : Ed) (.int .i64 s) (by simp [edF])
 rw [List.set_set] at e2
 exact e2
theorem SpS.addEnd {w0 : World} {C : Nat} {bs : List Int} {c : Cu} {u ev : Value} {g m cap b l' cap' : Nat} {n : Nt} {w w2 : World} (h : SpS w0 C bs c u (.slice (some ⟨g, 0, none⟩) m cap) n w) {k : Nat} (hk : k < n.joints.length) (hev : w.cell? ⟨g, k * 3 + 2, none⟩ = some ev) (hg : w.grownBy w2 ev.ownBlock) {es : List Ed} (hown : EdRow w2 (w0.heap.size + 1 + 1) (.slice (some ⟨b, 0, none⟩) l' cap') es) (hat : ev.ownBlock = some b ∨ b = w.heap.size) : SpS w0 C bs c u (.slice (some ⟨g, 0, none⟩) m cap) ⟨n.pieces, n.joints.set k ⟨n.joints[k].kind, n.joints[k].name, es⟩⟩ (w2.setCell ⟨g, k * 3 + 2, none⟩ (.slice (some ⟨b, 0, none⟩) l' cap')) := by
 obtain ⟨qs, hq, hJ, hE, he⟩ := h.opened hk
 have c2 := (hJ.cells hq).2.2
 rw [hev] at c2
 simp only [Option.some.injEq] at c2
 rw [← he]
 subst c2
 have hT := hJ.turned hq hE hg.size (Below.grown (Below.refl _ w) hg hJ.but.size (fun j hj => by have := (hE.lt j hj).1; omega)) (fun j hj hne => hg.block j hj (fun e => hne e.symm))
 refine hT.putK hq (j := 2) (by omega) (⟨qs[k].1.kind, qs[k].1.name, es⟩, .slice (some ⟨b, 0, none⟩) l' cap') _ rfl hown (fun i hi hik b' h1 h2 => ?_)
 have hb : b = b' := by simpa [Value.ownBlock] using h2
 subst hb
 rcases hat with h' | h'
 ·exact two_apart hJ.two hq i hi hik b h1 h'
 ·have := ((hJ.ends i hi hik).lt b h1).2
  omega
theorem SpS.jtGrown {w0 : World} {C : Nat} {bs : List Int} {c : Cu} {u ev : Value} {g m cap : Nat} {n : Nt} {w w2 : World} (h : SpS w0 C bs c u (.slice (some ⟨g, 0, none⟩) m cap) n w) {k : Nat} (hk : k < n.joints.length) (hev : w.cell? ⟨g, k * 3 + 2, none⟩ = some ev) (hg : w.grownBy w2 ev.ownBlock) : w2.cell? ⟨g, k * 3 + 2, none⟩ = some ev ∧ g < w2.heap.size ∧ ∀ j, w2.frozen? ⟨g, j, none⟩ = false := by
 obtain ⟨qs, hq, hJ, hE, he⟩ := h.opened hk
 have c2 := (hJ.cells hq).2.2
 rw [hev] at c2
 simp only [Option.some.injEq] at c2
 subst c2
 have hl := (hJ.jv.lt g rfl).2
 have hb : w2.heap[g]? = w.heap[g]? := hg.block g hl (fun e => Row.apart hJ.jv hE (by decide) g rfl e.symm)
 exact ⟨by rw [World.cell?_of_block (w := w) (a := ⟨g, k * 3 + 2, none⟩) hb]; exact hev, Nat.lt_of_lt_of_le hl hg.size, fun j => by rw [World.frozen?_of_block (w := w) (a := ⟨g, j, none⟩) hb]; exact hJ.jv.free j⟩
theorem NtB.putJ {n : Nt} {K : Nat} (h : NtB n K) {k : Nat} (y : Jt) (he : y.ends.length ≤ K + 300) (hn : y.name.size ≤ K + 300) : NtB ⟨n.pieces, n.joints.set k y⟩ (K + 300) := by
 have h1 := h.more (show K ≤ K + 300 by omega)
 refine ⟨h1.np, by rw [List.length_set]; exact h1.nj, h1.pn, fun p hp => ?_⟩
 rcases List.mem_or_eq_of_mem_set hp with h' | h'
 ·exact h1.je p h'
 ·rw [h']; exact ⟨he, hn⟩
def SpRet (w0 : World) (C : Nat) (bs : List Int) (c : Cu) (K : Nat) (e : Ending) (w' : World) : Prop :=
 ∃ u v n' c', e = .returned (.agg #[u, v]) ∧ PcRow w' w0.heap.size u n'.pieces ∧ JtD w' w0.heap.size v n'.joints ∧ CurAt w' C bs c' ∧ But (fun k => k = C) w0.heap.size w0 w' ∧ NtB n' (K + 300) ∧ c'.at_ ≤ c.at_ + 1000

end Go.Proofs.YtbdggfpfpjijoaaGreatDoor

