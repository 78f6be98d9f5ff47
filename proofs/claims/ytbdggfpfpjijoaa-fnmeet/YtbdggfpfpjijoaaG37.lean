import Derived.Test.YtbdggfpfpjijoaaDr11
namespace Go.Proofs.Ytbdggfpfpjijoaa
open Go.RowKit

/-! ### The nets that are drawn are small -/

theorem nameC_size (i : Nat) : (nameC i).size ≤ i + 2 := by
  have := decS_size i
  unfold nameC
  rw [ByteArray.size_append, strOne]
  omega
def PcsSm (ps : List Pc) : Prop := ∀ p ∈ ps, p.name.size ≤ 1000 ∧ 0 ≤ p.len ∧ p.len ≤ 1000
def JtsSm (js : List Jt) : Prop := ∀ j ∈ js, j.ends.length ≤ 1000 ∧ j.name.size ≤ 1000
theorem PcsSm.snoc {ps : List Pc} {p : Pc} (h : PcsSm ps) (hp : p.name.size ≤ 1000 ∧ 0 ≤ p.len ∧ p.len ≤ 1000) : PcsSm (ps ++ [p]) := by
  intro q hq
  rcases List.mem_append.1 hq with hq | hq
  · exact h q hq
  · simp at hq
    subst hq
    exact hp
theorem JtsSm.snoc {js : List Jt} {j : Jt} (h : JtsSm js) (hp : j.ends.length ≤ 1000 ∧ j.name.size ≤ 1000) : JtsSm (js ++ [j]) := by
  intro q hq
  rcases List.mem_append.1 hq with hq | hq
  · exact h q hq
  · simp at hq
    subst hq
    exact hp
theorem pieceC_sm (bs : List Int) (c : Cu) (n : Nt) (h : PcsSm n.pieces) (hl : n.pieces.length ≤ 900) : PcsSm (pieceC bs c n).1.pieces := by
  have h1 := nameC_size n.pieces.length
  have h2 := wideC_in bs c (show (0 : Int) < 300 by omega)
  exact h.snoc ⟨by dsimp only; omega, by dsimp only; omega, by dsimp only; omega⟩
theorem three_sm (bs : List Int) (c : Cu) (n : Nt) (h : PcsSm n.pieces) (hl : n.pieces.length ≤ 800) : PcsSm (three bs c n).1.pieces ∧ (three bs c n).1.pieces.length = n.pieces.length + 3 := by
  have l1 := pieceC_len bs c n
  have l2 := pieceC_len bs (pieceC bs c n).2 (pieceC bs c n).1
  have l3 := pieceC_len bs (pieceC bs (pieceC bs c n).2 (pieceC bs c n).1).2 (pieceC bs (pieceC bs c n).2 (pieceC bs c n).1).1
  have h1 := pieceC_sm bs c n h (by omega)
  have h2 := pieceC_sm bs (pieceC bs c n).2 (pieceC bs c n).1 h1 (by omega)
  have h3 := pieceC_sm bs (pieceC bs (pieceC bs c n).2 (pieceC bs c n).1).2 (pieceC bs (pieceC bs c n).2 (pieceC bs c n).1).1 h2 (by omega)
  exact ⟨h3, by unfold three; omega⟩
theorem stationGo_sm (bs : List Int) : ∀ (k p : Nat) (n : Nt) (c : Cu), n.pieces.length + 3 * k ≤ 100 → n.joints.length + 2 * k ≤ 100 → PcsSm n.pieces → JtsSm n.joints →
    PcsSm (stationGo bs k p n c).2.1.pieces ∧ JtsSm (stationGo bs k p n c).2.1.joints ∧ (stationGo bs k p n c).2.1.pieces.length ≤ 100 ∧ (stationGo bs k p n c).2.1.joints.length ≤ 100 := by
  intro k
  induction k with
  | zero => intro p n c h1 h2 h3 h4; exact ⟨h3, h4, by simp only [stationGo]; omega, by simp only [stationGo]; omega⟩
  | succ k ih =>
    intro p n c h1 h2 h3 h4
    unfold stationGo
    obtain ⟨hs, hsl⟩ := three_sm bs c n h3 (by omega)
    have n1 := nameC_size (100 + n.joints.length)
    have n2 := nameC_size (100 + (n.joints.length + 1))
    refine ih _ _ _ ?_ ?_ hs ?_
    · show (three bs c n).1.pieces.length + 3 * k ≤ 100
      omega
    · simp only [List.length_append, List.length_singleton]
      omega
    · exact (h4.snoc (j := swA n.joints.length p n.pieces.length (n.pieces.length + 1)) ⟨by simp [swA], by show (nameC (100 + n.joints.length)).size ≤ 1000; omega⟩).snoc (j := swB (n.joints.length + 1) (n.pieces.length + 2) n.pieces.length (n.pieces.length + 1)) ⟨by simp [swB], by show (nameC (100 + (n.joints.length + 1))).size ≤ 1000; omega⟩
theorem endJ_sm (p s : Nat) : (endJ p s).ends.length ≤ 1000 ∧ (endJ p s).name.size ≤ 1000 := ⟨by simp [endJ], by show (⟨#[]⟩ : ByteArray).size ≤ 1000; simp [ByteArray.size]⟩
theorem small_of {n : Nt} (h1 : PcsSm n.pieces) (h2 : JtsSm n.joints) (h3 : n.pieces.length ≤ 1000) (h4 : n.joints.length ≤ 1000) : NtSmall n :=
  ⟨by omega, by omega, fun i hi => by have := h2 _ (List.getElem_mem hi); omega, fun i hi => by have := h1 _ (List.getElem_mem hi); omega, fun i hi => by have := h1 _ (List.getElem_mem hi); omega⟩
theorem stationC_sm (bs : List Int) (c : Cu) : NtSmall (stationC bs c).1 := by
  have h0 := pickC_in bs c 3
  have h1 : PcsSm (station1 bs c).1.pieces := pieceC_sm bs (pickC bs c 3).2 ⟨[], []⟩ (fun p hp => by cases hp) (by simp)
  have l1 : (station1 bs c).1.pieces.length = 1 := pieceC_len bs (pickC bs c 3).2 ⟨[], []⟩
  have h2 : JtsSm (station1 bs c).1.joints := JtsSm.snoc (js := []) (fun p hp => by cases hp) (endJ_sm 0 0)
  have l2 : (station1 bs c).1.joints.length = 1 := rfl
  obtain ⟨g1, g2, g3, g4⟩ := stationGo_sm bs (1 + (pickC bs c 3).1).toNat 0 (station1 bs c).1 (station1 bs c).2 (by omega) (by omega) h1 h2
  refine small_of (n := (stationC bs c).1) g1 (g2.snoc (endJ_sm _ _)) (by show List.length (stationGo bs (1 + (pickC bs c 3).1).toNat 0 (station1 bs c).1 (station1 bs c).2).2.1.pieces ≤ 1000; omega) ?_
  show List.length ((stationGo bs (1 + (pickC bs c 3).1).toNat 0 (station1 bs c).1 (station1 bs c).2).2.1.joints ++ [_]) ≤ 1000
  rw [List.length_append, List.length_singleton]
  omega
theorem netGo1_sm (bs : List Int) : ∀ (k : Nat) (ps : List Pc) (es : List Ed) (c : Cu), ps.length + k ≤ 100 → PcsSm ps → PcsSm (netGo1 bs k ps es c).1 := by
  intro k
  induction k with
  | zero => intro ps es c _ h; exact h
  | succ k ih =>
    intro ps es c hl h
    unfold netGo1
    refine ih _ _ _ (by rw [List.length_append, List.length_singleton]; omega) (h.snoc ?_)
    have h1 := nameC_size ps.length
    have h2 := wideC_in bs c (show (0 : Int) < 300 by omega)
    unfold netP
    dsimp only
    exact ⟨by omega, by omega, by omega⟩
theorem netGo3_sm (bs : List Int) : ∀ (f : Nat) (js : List Jt) (es : List Ed) (c : Cu), js.length + f ≤ 100 → es.length ≤ 100 → JtsSm js → JtsSm (netGo3 bs f js es c).1 := by
  intro f
  induction f with
  | zero => intro js es c _ _ h; exact h
  | succ f ih =>
    intro js es c hl he h
    unfold netGo3
    split
    · exact h
    · refine ih _ _ _ (by rw [List.length_append, List.length_singleton]; omega) (by rw [List.length_drop]; omega) (h.snoc ⟨?_, ?_⟩)
      · simp only [netJ, List.length_take]
        omega
      · have h1 := nameC_size (100 + js.length)
        unfold netJ
        dsimp only
        split
        · omega
        · simp [ByteArray.size]
theorem netC_sm (bs : List Int) (c : Cu) : NtSmall (netC bs c).1 := by
  have h0 := pickC_in bs c 9
  have l1 := netGo1_len bs (1 + (pickC bs c 9).1).toNat [] [] (pickC bs c 9).2
  have l2 := netGo2_len bs ((net1 bs c).2.1.length - 1) (net1 bs c).2.1 (net1 bs c).2.2
  have l3 := (netGo3_at bs (net2 bs c).1.length [] (net2 bs c).1 (net2 bs c).2).2
  change (net1 bs c).1.length = _ ∧ (net1 bs c).2.1.length = _ at l1
  change (net2 bs c).1.length = _ at l2
  change (net3 bs c).1.length ≤ _ at l3
  simp only [List.length_nil] at l1 l3
  have p1 : PcsSm (net1 bs c).1 := netGo1_sm bs (1 + (pickC bs c 9).1).toNat [] [] (pickC bs c 9).2 (by simp only [List.length_nil]; omega) (fun p hp => by cases hp)
  have p2 : JtsSm (net3 bs c).1 := netGo3_sm bs (net2 bs c).1.length [] (net2 bs c).1 (net2 bs c).2 (by simp only [List.length_nil]; omega) (by omega) (fun p hp => by cases hp)
  exact small_of (n := (netC bs c).1) p1 p2 (show (net1 bs c).1.length ≤ 1000 by omega) (show (net3 bs c).1.length ≤ 1000 by omega)
theorem trackC_sm (bs : List Int) (c : Cu) : NtSmall (trackC bs c).1 := by
  unfold trackC
  split
  · exact stationC_sm _ _
  · exact netC_sm _ _
end Go.Proofs.Ytbdggfpfpjijoaa

set_option linter.unusedSimpArgs false
namespace Go.Proofs.Ytbdggfpfpjijoaa
open Go.RowKit

def poF (p : Int × Int) : List Value := [.int .i64 p.1, .int .i64 p.2]
theorem poF_len (p : Int × Int) : (poF p).length = 2 := rfl
abbrev PoRow (w : World) (base : Nat) (v : Value) (ps : List (Int × Int)) : Prop := Row w base 172 2 poF v ps
theorem info_Post : (Try.prog.info? 172).map (fun i => (i.zero, i.size, i.bytes)) = some (some (.agg #[.int .i64 0, .int .i64 0]), 2, 16) := by kernel_rfl
theorem po_one (x : Int × Int) : ∀ u ∈ poF x, u.oneCell' = true := by
  intro u hu
  simp [poF] at hu
  rcases hu with rfl | rfl <;> rfl
/-- Posts under way. -/
structure PoW (C X : Nat) (bs : List Int) (w0 : World) (a : Option Addr) (n : Nt) (ca : Nat) (c : Cu) (u : Value) (ps : List (Int × Int)) (w : World) : Prop where
  cur : CurAt w C bs c
  xb : ∃ b2, Boxed w X [.slice a n.pieces.length ca, b2]
  row : PoRow w (X + 1) u ps
  but : But (fun k => k = C) w0.heap.size w0 w
theorem PoW.draw {C X : Nat} {bs : List Int} {w0 w w' : World} {a : Option Addr} {n : Nt} {ca : Nat} {c c' : Cu} {u : Value} {ps : List (Int × Int)} (h : PoW C X bs w0 a n ca c u ps w) (ho : Only (fun k => k = C) w w') (hc : CurAt w' C bs c') (hX : C < X) : PoW C X bs w0 a n ca c' u ps w' := by
  obtain ⟨b2, hb⟩ := h.xb
  exact ⟨hc, ⟨b2, hb.onlyS ho (show ¬ X = C by omega)⟩, h.row.only ho (fun k hk (e : k = C) => by have := (h.row.lt k hk).1; omega), but_draw h.but ho⟩
theorem PoW.below {C X : Nat} {bs : List Int} {w0 w w' : World} {a : Option Addr} {n : Nt} {ca : Nat} {c : Cu} {u : Value} {ps : List (Int × Int)} (h : PoW C X bs w0 a n ca c u ps w) (hb : Below w.heap.size w w') : PoW C X bs w0 a n ca c u ps w' := by
  obtain ⟨b2, hx⟩ := h.xb
  exact ⟨h.cur.below hb, ⟨b2, hx.below hb⟩, h.row.below hb, but_below' h.but hb⟩
/-- Behind an append. -/
theorem PoW.add {C X : Nat} {bs : List Int} {w0 w w' : World} {a : Option Addr} {n : Nt} {ca : Nat} {c : Cu} {u u' : Value} {ps ps' : List (Int × Int)} (h : PoW C X bs w0 a n ca c u ps w) (hg : w.grownBy w' u.ownBlock) (hrow : PoRow w' (X + 1) u' ps') (hX : w0.heap.size ≤ X) (hCX : C < X) (hXw : X < w.heap.size) : PoW C X bs w0 a n ca c u' ps' w' := by
  obtain ⟨b2, hx⟩ := h.xb
  have hne : ∀ k, u.ownBlock = some k → X + 1 ≤ k := fun k hk => (h.row.lt k hk).1
  have hb : Below (X + 1) w w' := Below.grown (Below.refl (X + 1) w) hg (by omega) hne
  exact ⟨h.cur.of_below hb (by omega), ⟨b2, hx.grownE hg (fun hc => by have := hne _ hc; omega)⟩, hrow, h.but.trans (but_below hb (by omega))⟩
def RetPo (C : Nat) (bs : List Int) (c : Cu) (w : World) (e : Ending) (w' : World) : Prop :=
  ∃ u ps c', e = .returned u ∧ PoRow w' w.heap.size u ps ∧ ps.length ≤ 6 ∧ CurAt w' C bs c' ∧ c'.at_ ≤ c.at_ + 40 ∧ But (fun k => k = C) w.heap.size w w'

set_option maxRecDepth 100000 in
set_option maxHeartbeats 8000000 in
theorem posts_any (C : Nat) (bs : List Int) (c : Cu) (v : Value) (n : Nt) (w : World) (hcu : CurAt w C bs c) (hbs : BytesIn bs) (ha : c.at_ ≤ 1000000) (hv : NetK C w v n) (hl : n.pieces.length ≤ 1000000) (hlen : LensOk n) :
    Calls Try.prog 44 #[.pointer (some ⟨C, 0, none⟩), v] w (RetPo C bs c w) := by
  have hCl := hcu.lt
  have HNK := hide hv
  obtain ⟨a, a2, ca, cc, rfl, _, _⟩ := hv.now
  obtain ⟨i1, hj1, hy0, hy1, hy2⟩ := info_parts info_Post
  have HLEN := hide hlen
  have hpi := pickC_in bs c 6
  have hpa := pickC_at bs c 6
  have HS0 : Hid (PoW C w.heap.size bs w a n ca c (.slice none 0 0) [] (w.alloc (.cells #[.slice a n.pieces.length ca, .slice a2 n.joints.length cc] 26))) := ⟨hcu.below (by repeat (first | with_reducible exact Below.refl _ _ | refine Below.setCell ?_ (by first | omega | (simp <;> omega) | (simp [World.setCell] <;> omega)) _ | refine Below.alloc ?_ (by first | omega | (simp <;> omega) | (simp [World.setCell] <;> omega)) _ | refine Below.drew ?_ | refine below_draws ?_ _ | exact Below.refl _ _)), ⟨_, boxed_alloc w #[.slice a n.pieces.length ca, .slice a2 n.joints.length cc] 26⟩, Row.nil _ _ _ _ _, but_of_below (by repeat (first | with_reducible exact Below.refl _ _ | refine Below.setCell ?_ (by first | omega | (simp <;> omega) | (simp [World.setCell] <;> omega)) _ | refine Below.alloc ?_ (by first | omega | (simp <;> omega) | (simp [World.setCell] <;> omega)) _ | refine Below.drew ?_ | refine below_draws ?_ _ | exact Below.refl _ _))⟩
  clear hlen hcu hv
  obtain ⟨m, hm⟩ : ∃ m, n.pieces.length = m := ⟨_, rfl⟩
  rw [hm] at hl
  have HM := hide hm
  clear hm
  go_enter Try.func44, Try.ntmps44
  go_wp2_with fail
  refine (pick_any C bs c 6 _ (unhide HS0).cur hbs (by omega) (by omega)).mono ?_
  rintro e w1 ⟨rfl, hcu1, ho1⟩
  have HS1 := hide ((unhide HS0).draw ho1 hcu1 (by omega))
  clear hcu1 ho1 HS0
  obtain ⟨k0, hk0⟩ : ∃ k0 : Nat, (pickC bs c 6).1 = k0 := ⟨(pickC bs c 6).1.toNat, by omega⟩
  obtain ⟨c1, hc1⟩ : ∃ c1, (pickC bs c 6).2 = c1 := ⟨_, rfl⟩
  rw [hk0] at hpi ⊢
  rw [hc1] at hpa HS1
  clear hk0 hc1
  obtain ⟨X, hX⟩ : ∃ X, w.heap.size = X := ⟨_, rfl⟩
  have hX' : w.heap.size ≤ X ∧ X ≤ w.heap.size := by omega
  rw [hX] at HS1 hCl ⊢
  clear hX
  go_wp2_with fail
  go_loopw [5, 6] (fun y z wr => ∃ (k : Nat) (ps : List (Int × Int)) (c2 : Cu), z = .int .i64 k ∧ k + ps.length ≤ 6 ∧ c2.at_ + 4 * k ≤ c.at_ + 26 ∧ Hid (PoW C X bs w a n ca c2 y ps wr)) (fun _ z _ => (intOf z).toNat)
  case atStart => exact ⟨k0, [], c1, rfl, by simp; omega, by omega, HS1⟩
  case round =>
    clear HS1
    obtain ⟨k, ps, c2, rfl, hkb, hat, HSR⟩ := hrel
    obtain ⟨b2, hXb⟩ := (unhide HSR).xb
    rw [unhide HM] at hXb
    have x0 := hXb.2.1 0 _ rfl
    have xl := hXb.1
    clear hXb
    by_cases hkp : 0 < k
    · have hkp' : (0 : Int) < (k : Int) := by omega
      have hkw : IntKind.i64.wrap ((k : Int) - 1) = ((k - 1 : Nat) : Int) := (wrap_small (by omega) (by omega)).trans (by omega)
      by_cases hmp : 0 < m
      · have hmp' : (0 : Int) < (m : Int) := by omega
        have hqi := pickC_in bs c2 m
        have hqa := pickC_at bs c2 m
        obtain ⟨p, hpp⟩ : ∃ p : Nat, (pickC bs c2 m).1 = p := ⟨(pickC bs c2 m).1.toNat, by omega⟩
        obtain ⟨c3, hc3⟩ : ∃ c3, (pickC bs c2 m).2 = c3 := ⟨_, rfl⟩
        rw [hpp] at hqi
        rw [hc3] at hqa
        have HP := hide (And.intro hpp hc3)
        clear hpp hc3
        have hpm : p < m := by omega
        have hpm' : (p : Int) < (m : Int) := by omega
        go_wp2_with fail
        refine (pick_any C bs c2 m _ (unhide HSR).cur hbs (by omega) (by omega)).mono ?_
        rw [(unhide HP).1, (unhide HP).2]
        rintro e wA ⟨rfl, hcuA, hoA⟩
        have HSA := hide ((unhide HSR).draw hoA hcuA (by omega))
        clear hcuA hoA HSR x0 xl
        obtain ⟨q, hq⟩ : ∃ q, lenOf n p = q := ⟨_, rfl⟩
        have hqb : -100000000 ≤ q ∧ q ≤ 100000000 := by rw [← hq]; exact (unhide HLEN).lenOf p
        obtain ⟨pb, poff, hae, hpb, c1w⟩ := (unhide HNK wA (unhide HSA).but).pcs.len (n := n) (p := p) (by omega) (by rw [unhide HM]; omega)
        rw [hq, Int.toNat_natCast] at c1w
        clear hq
        obtain ⟨b2, hXb⟩ := (unhide HSA).xb
        rw [unhide HM] at hXb
        have x0 := hXb.2.1 0 _ rfl
        have xl := hXb.1
        rw [hae] at x0
        have HAE := hide hae
        clear hXb hae
        by_cases h2 : q < 2
        · go_wp2_with fail
          exact ⟨⟨k - 1, ps, c3, rfl, by omega, by omega, HSA⟩, by simp [intOf]; omega⟩
        · have h2' : ¬ q < 2 := h2
          by_cases h7 : 10000000 < q
          · go_wp2_with fail
            exact ⟨⟨k - 1, ps, c3, rfl, by omega, by omega, HSA⟩, by simp [intOf]; omega⟩
          · have hw1 : IntKind.i64.wrap (q - 1) = q - 1 := wrap_small (by omega) (by omega)
            have hri := wideC_in bs c3 (show (0 : Int) < q - 1 by omega)
            have hra := wideC_at bs c3 (q - 1)
            obtain ⟨r, hr⟩ : ∃ r, (wideC bs c3 (q - 1)).1 = r := ⟨_, rfl⟩
            obtain ⟨c4, hc4⟩ : ∃ c4, (wideC bs c3 (q - 1)).2 = c4 := ⟨_, rfl⟩
            rw [hr] at hri
            rw [hc4] at hra
            have HR := hide (And.intro hr hc4)
            clear hr hc4
            have hw2 : IntKind.i64.wrap (1 + r) = 1 + r := wrap_small (by omega) (by omega)
            go_wp2_with fail
            refine (wide_any C bs c3 (q - 1) _ (unhide HSA).cur hbs (by omega) ⟨by omega, by omega⟩).mono ?_
            rw [(unhide HR).1, (unhide HR).2]
            rintro e wB ⟨rfl, hcuB, hoB⟩
            have HSB := hide ((unhide HSA).draw hoB hcuB (by omega))
            have hsB : X < wB.heap.size := by have := hoB.size; omega
            clear hcuB hoB x0 xl c1w HSA
            go_wp2_with (at_builtin; refine wpList_append_own _ rfl (.tmp 41) (.tmp 54) 37 rfl (X + 1) 172 i1 (.agg #[.int .i64 0, .int .i64 0]) 2 16 Try.underlying37 hj1 hy0 hy1 hy2 rfl (by decide) _ _ _ rfl ((unhide HSB).row.below (by repeat (first | with_reducible exact Below.refl _ _ | refine Below.setCell ?_ (by first | omega | (simp <;> omega) | (simp [World.setCell] <;> omega)) _ | refine Below.alloc ?_ (by first | omega | (simp <;> omega) | (simp [World.setCell] <;> omega)) _ | refine Below.drew ?_ | refine below_draws ?_ _ | exact Below.refl _ _))) ⟨wB.heap.size, 0, none⟩ 1 1 (poF (p, 1 + r)) rfl rfl ?c1 (po_one _) ?c2 ?c3 ?c4 ?_)
            case c1 => (first | exact fun _ _ h => h | exact box_news (boxedN _ _ _ (by first | rfl | simp)))
            case c2 => unfold maxLen; omega
            case c3 => omega
            case c4 => (first | omega | (simp; omega))
            intro u' w9 hown9 hgrow9 _
            have hrow9 : PoRow w9 (X + 1) u' (ps ++ [((p : Int), 1 + r)]) := Row.snoc (f := poF) hown9
            have HS9 := hide (((unhide HSB).below ((by repeat (first | with_reducible exact Below.refl _ _ | refine Below.setCell ?_ (by first | omega | (simp <;> omega) | (simp [World.setCell] <;> omega)) _ | refine Below.alloc ?_ (by first | omega | (simp <;> omega) | (simp [World.setCell] <;> omega)) _ | refine Below.drew ?_ | refine below_draws ?_ _ | exact Below.refl _ _)) : Below _ _ (wB.alloc (.cells #[.int .i64 p, .int .i64 (1 + r)] 172)))).add hgrow9 hrow9 (by omega) (by omega) (by simp; omega))
            clear hown9 hgrow9 hrow9
            go_wp2_with fail
            exact ⟨⟨k - 1, _, c4, rfl, by rw [List.length_append, List.length_singleton]; omega, by omega, HS9⟩, by simp [intOf]; omega⟩
      · have hmp' : ¬ (0 : Int) < (m : Int) := by omega
        go_wp2_with fail
        go_ret
        exact ⟨_, ps, c2, rfl, (unhide HSR).row.mono (by omega), by omega, (unhide HSR).cur, by omega, (unhide HSR).but⟩
    · have hkp' : ¬ (0 : Int) < (k : Int) := by omega
      go_wp2_with fail
      go_ret
      exact ⟨_, ps, c2, rfl, (unhide HSR).row.mono (by omega), by omega, (unhide HSR).cur, by omega, (unhide HSR).but⟩
end Go.Proofs.Ytbdggfpfpjijoaa

