import Derived.Test.YtcggkfpkkhjdhaaGreatPw6
set_option linter.unusedSimpArgs false
namespace Go.Proofs.YtcggkfpkkhjdhaaGreat
open Go.RowKit

/-! ### Passings -/

def paF (t : Int × Int × Int) : List Value := [.int .i64 t.1, .int .i64 t.2.1, .int .i64 t.2.2]
theorem paF_len (t : Int × Int × Int) : (paF t).length = 3 := rfl
abbrev PaRow (w : World) (base : Nat) (v : Value) (L : List (Int × Int × Int)) : Prop := Row w base 77 3 paF v L
theorem info_pass : (Tryz.prog.info? 77).map (fun i => (i.zero, i.size, i.bytes)) = some (some (.agg #[.int .i64 0, .int .i64 0, .int .i64 0]), 3, 24) := by kernel_rfl
theorem pa_one (t : Int × Int × Int) : ∀ u ∈ paF t, u.oneCell' = true := by
  intro u hu
  simp [paF] at hu
  rcases hu with rfl | rfl | rfl <;> rfl
theorem pa_news {w : World} {N : Nat} {t : Int × Int × Int} (h : Boxed w N [.int .i64 t.1, .int .i64 t.2.1, .int .i64 t.2.2]) : ∀ j u, (paF t)[j]? = some u → w.cell? ((⟨N, 0, none⟩ : Addr).add j) = some u := fun j u hu => by
  have hadd : (⟨N, 0, none⟩ : Addr).add j = ⟨N, j, none⟩ := by unfold Addr.add; split <;> simp_all
  rw [hadd]
  exact h.2.1 j u hu
theorem MksAt.drop {w : World} {b off : Nat} {ms : List Mrk} (h : MksAt w (some ⟨b, off, none⟩) ms) (j : Nat) : MksAt w (some ⟨b, off + j * 3, none⟩) (ms.drop j) := fun i hi => by
  rw [List.length_drop] at hi
  obtain ⟨b', off', e, hl, h1, h2, h3⟩ := h (j + i) (by omega)
  simp only [Option.some.injEq, Addr.mk.injEq, and_true] at e
  obtain ⟨rfl, rfl⟩ := e
  refine ⟨b, off + j * 3, rfl, hl, ?_, ?_, ?_⟩
  · rw [List.getElem_drop, ← h1]; congr 2; omega
  · rw [List.getElem_drop, ← h2]; congr 2; omega
  · rw [List.getElem_drop, ← h3]; congr 2; omega
theorem grp_is {x : Wh} {j : Nat} (hj : j ≤ x.ms.length) (h : ∀ i (hi : i < x.ms.length), i < j → x.ms[i].far = (x.ms.headD noMk).far) (he : ∀ (hi : j < x.ms.length), x.ms[j].far ≠ (x.ms.headD noMk).far) : grpW x = x.ms.take j ∧ rstW x = x.ms.drop j := by
  obtain ⟨ax, bk, ms⟩ := x
  unfold grpW rstW
  dsimp only at h he hj ⊢
  generalize (ms.headD noMk).far = f at *
  induction ms generalizing j with
  | nil => simp
  | cons m r ih =>
    cases j with
    | zero =>
      have := he (by simp)
      simp only [List.getElem_cons_zero] at this
      rw [List.takeWhile_cons, List.dropWhile_cons, if_neg (by simpa using this), if_neg (by simpa using this)]
      simp
    | succ j =>
      have h0 := h 0 (by simp) (by omega)
      simp only [List.getElem_cons_zero] at h0
      rw [List.takeWhile_cons, List.dropWhile_cons, if_pos (by simpa using h0), if_pos (by simpa using h0), List.take_succ_cons, List.drop_succ_cons]
      obtain ⟨i1, i2⟩ := ih (j := j) (by simpa using hj) (fun i hi hij => by have := h (i + 1) (by simpa using hi) (by omega); simpa using this) (fun hi => by have := he (by simpa using hi); simpa using this)
      exact ⟨by rw [i1], i2⟩
theorem drop_ne {α : Type} {l : List α} {j : Nat} (h : j < l.length) : l.drop j ≠ [] := fun e => by
  have := congrArg List.length e
  rw [List.length_drop] at this
  simp at this
  omega
def slLen : Value → Nat
  | .slice _ n _ => n
  | _ => 0
/-- A pass under way: j marks are passed. -/
structure PsgAt (w0 : World) (B base : Nat) (u0 : Value) (x : Wh) (mb off : Nat) (L : List (Int × Int × Int)) (j : Nat) (u : Value) (w : World) : Prop where
  box : ∃ o c, Boxed w B [.int .i64 x.axle, .int .i64 x.back, .slice (some ⟨mb, o, none⟩) (x.ms.length - j) c] ∧ (j < x.ms.length → o = off + j * 3) ∧ x.ms.length - j ≤ c
  row : PaRow w base u (L ++ (x.ms.take j).map fun m => (x.next, m.post, m.way))
  far : ∀ i (hi : i < x.ms.length), i < j → x.ms[i].far = (x.ms.headD noMk).far
  to_ : HpTo B w0 u0 w u
  ms : MksAt w (some ⟨mb, off, none⟩) x.ms
  own : u.ownBlock ≠ some B ∧ u.ownBlock ≠ some mb
theorem PsgAt.below {w0 : World} {B base : Nat} {u0 : Value} {x : Wh} {mb off : Nat} {L : List (Int × Int × Int)} {j : Nat} {u : Value} {w w' : World} (h : PsgAt w0 B base u0 x mb off L j u w) (hb : Below w.heap.size w w') : PsgAt w0 B base u0 x mb off L j u w' :=
  ⟨by obtain ⟨o, c, h1, h2⟩ := h.box; exact ⟨o, c, h1.below hb, h2⟩, h.row.below hb, h.far, h.to_.trans (HpTo.of_below _ hb), h.ms.below hb, h.own⟩
theorem PsgAt.step {w0 : World} {B base : Nat} {u0 : Value} {x : Wh} {mb off : Nat} {L : List (Int × Int × Int)} {j : Nat} {u u' : Value} {w w5 : World} (h : PsgAt w0 B base u0 x mb off L j u w) (hj : j < x.ms.length) (hf : x.ms[j].far = (x.ms.headD noMk).far) (hg : w.grownBy w5 u.ownBlock) (hr : PaRow w5 base u' (L ++ (x.ms.take (j + 1)).map fun m => (x.next, m.post, m.way))) (hat : ∀ k, u'.ownBlock = some k → u.ownBlock = some k ∨ w.heap.size ≤ k) (hmb : mb < w.heap.size) (hmB : mb ≠ B)
    {o c : Nat} (ho : j + 1 < x.ms.length → o = off + (j + 1) * 3) (hc : x.ms.length - (j + 1) ≤ c) : PsgAt w0 B base u0 x mb off L (j + 1) u' (w5.setCell ⟨B, 2, none⟩ (.slice (some ⟨mb, o, none⟩) (x.ms.length - (j + 1)) c)) := by
  obtain ⟨hne, hnm⟩ := h.own
  obtain ⟨o', c', hb0, _⟩ := h.box
  have hBl := hb0.1
  have hu1 : u'.ownBlock ≠ some B := fun e => by
    rcases hat B e with e' | e'
    · exact hne e'
    · omega
  have hu2 : u'.ownBlock ≠ some mb := fun e => by
    rcases hat mb e with e' | e'
    · exact hnm e'
    · omega
  have hbx := hb0.grownE hg hne
  have hsz : (w5.setCell ⟨B, 2, none⟩ (.slice (some ⟨mb, o, none⟩) (x.ms.length - (j + 1)) c)).heap.size = w5.heap.size := by simp [World.setCell]
  refine ⟨⟨o, c, by simpa using hbx.setAt (i := 2) (by simp) (.slice (some ⟨mb, o, none⟩) (x.ms.length - (j + 1)) c), ho, hc⟩, hr.block (fun k hk => Below.heap_setCell w5 ⟨B, 2, none⟩ _ k (fun e => hu1 (by rw [hk, e]))), fun i hi hij => ?_, h.to_.trans ⟨hg.os, hg.tape, hg.output, by rw [hsz]; exact hg.size, fun k hk h1 h2 => (Below.heap_setCell w5 ⟨B, 2, none⟩ _ k h1).trans (hg.block k hk (fun e => h2 e.symm)), hat⟩, h.ms.same (by rw [hsz]; exact hg.size) (fun b o e hl => ?_), hu1, hu2⟩
  · by_cases e : i = j
    · subst e; exact hf
    · exact h.far i hi (by omega)
  · simp only [Option.some.injEq, Addr.mk.injEq, and_true] at e
    obtain ⟨rfl, rfl⟩ := e
    exact (Below.heap_setCell w5 ⟨B, 2, none⟩ _ mb hmB).trans (hg.block mb hl (fun e => hnm e.symm))
set_option maxRecDepth 100000 in
set_option maxHeartbeats 8000000 in
theorem wpass_any (B base : Nat) (u : Value) (x : Wh) (mb off cap : Nat) (L : List (Int × Int × Int)) (w : World) (hb : Boxed w B [.int .i64 x.axle, .int .i64 x.back, .slice (some ⟨mb, off, none⟩) x.ms.length cap]) (hr : PaRow w base u L) (hm : MksAt w (some ⟨mb, off, none⟩) x.ms) (hf : WhFit x) (hmB : mb ≠ B) (ho1 : u.ownBlock ≠ some B) (ho2 : u.ownBlock ≠ some mb) (hbase : base ≤ w.heap.size) (hcap : x.ms.length ≤ cap) (hL : L.length ≤ 20000000000) (hml : x.ms.length ≤ 1000000) :
    Calls Tryz.prog 88 #[.pointer (some ⟨B, 0, none⟩), u] w fun e w' => ∃ u', e = .returned u' ∧ PsgAt w B base u x mb off L (grpW x).length u' w' := by
  obtain ⟨i1, hj1, hy0, hy1, hy2⟩ := info_parts info_pass
  have HP0 : Hid (PsgAt w B base u x mb off L 0 u w) := ⟨⟨off, cap, by simpa using hb, fun _ => by omega, by omega⟩, by simpa using hr, fun i _ h => by omega, HpTo.refl _ _ _, hm, ho1, ho2⟩
  have b0 := hb.2.1 0 _ rfl
  have b1 := hb.2.1 1 _ rfl
  have b2 := hb.2.1 2 _ rfl
  have bl := hb.1
  have HF : Hid (WhFit x) := hf
  have HM := hide hm
  have hne := hf.2.2.1
  have hpos : 0 < x.ms.length := List.length_pos_iff.2 hne
  have HMB : Hid (mb < w.heap.size) := by
    obtain ⟨b, o, e, hl, _⟩ := hm 0 hpos
    simp only [Option.some.injEq, Addr.mk.injEq, and_true] at e
    rw [e.1]
    exact hide hl
  clear hb hr hm hf hne ho1 ho2
  go_enter Tryz.func88, Tryz.ntmps88
  go_wp2_with fail
  refine (next_any' x _ cap w (unhide HM) (unhide HF)).mono ?_
  rintro e w1 ⟨rfl, hb1⟩
  have HP1 := hide ((unhide HP0).below hb1)
  clear hb1 b0 b1 b2 bl HP0 HM
  go_wp2_with fail
  go_loopw [1] (fun y wr => ∃ (j : Nat), j ≤ x.ms.length ∧ Hid (PsgAt w B base u x mb off L j y wr)) (fun y _ => L.length + x.ms.length - slLen y)
  case atStart => exact ⟨0, Nat.zero_le _, HP1⟩
  case round =>
    clear HP1
    obtain ⟨j, hj, HR⟩ := hrel
    rename World => wr
    have hsz0 := (unhide HR).to_.size
    obtain ⟨ya, yc, hye, _, _⟩ := (unhide HR).row.shape paF_len
    have hyl : (L ++ (x.ms.take j).map fun m => (x.next, m.post, m.way)).length = L.length + j := by simp; omega
    rw [hyl] at hye
    subst hye
    obtain ⟨o, cj, hbx, hoj, hcj⟩ := (unhide HR).box
    have b0 := hbx.2.1 0 _ rfl
    have b1 := hbx.2.1 1 _ rfl
    have b2 := hbx.2.1 2 _ rfl
    have bz := hbx.2.2 2
    have bl := hbx.1
    have HYL := hide hyl
    have HBX := hide hbx
    clear hyl hbx
    by_cases hlt : j < x.ms.length
    · obtain rfl := hoj hlt
      clear hoj
      have hpos' : (0 : Int) < ((x.ms.length - j : Nat) : Int) := by omega
      have hfj := (unhide HF).2.2.2 _ (List.getElem_mem hlt)
      unfold MkFit at hfj
      have hbk := (unhide HF).2.1
      have HNX : Hid (∀ W, Below wr.heap.size wr W → Calls Tryz.prog 120 #[.agg #[.int .i64 x.axle, .int .i64 x.back, .slice (some ⟨mb, off + j * 3, none⟩) (x.ms.length - j) cj]] W fun e w' => e = .returned (.int .i64 (x.ms[j].far + x.back)) ∧ Below W.heap.size W w') := fun W hW => by
        have hfit : WhFit ⟨x.axle, x.back, x.ms.drop j⟩ := ⟨(unhide HF).1, (unhide HF).2.1, drop_ne hlt, fun m hm => (unhide HF).2.2.2 m (List.mem_of_mem_drop hm)⟩
        have h := next_any' ⟨x.axle, x.back, x.ms.drop j⟩ _ cj W (((unhide HR).ms.drop j).below hW) hfit
        dsimp only at h
        rw [List.length_drop] at h
        have hn : Wh.next ⟨x.axle, x.back, x.ms.drop j⟩ = x.ms[j].far + x.back := by
          unfold Wh.next
          dsimp only
          rw [List.drop_eq_getElem_cons hlt, List.headD_cons]
        rw [hn] at h
        exact h
      obtain ⟨mb', off', em, hmbl, c0, c1, c2⟩ := (unhide HR).ms j hlt
      simp only [Option.some.injEq, Addr.mk.injEq, and_true] at em
      obtain ⟨rfl, rfl⟩ := em
      by_cases hfe : x.ms[j].far + x.back = x.next
      · have hfb : (x.ms[j].far + x.back == x.next) = true := by simpa using hfe
        have hff : x.ms[j].far = (x.ms.headD noMk).far := by unfold Wh.next at hfe; omega
        have HFF := hide hff
        have hc1 : 1 ≤ x.ms.length - j := by omega
        have HTK : Hid (x.ms.take (j + 1) = x.ms.take j ++ [x.ms[j]]) := (List.take_append_getElem hlt).symm
        obtain ⟨m, hm⟩ : ∃ m, x.ms[j] = m := ⟨_, rfl⟩
        rw [hm] at HFF HTK hfe hfb HNX c0 c1 c2 hfj
        have HMJ := hide hm
        obtain ⟨xn, hxn⟩ : ∃ xn, x.next = xn := ⟨_, rfl⟩
        clear hff hm
        go_wp2_with fail
        refine (unhide HNX _ bw0).mono ?_
        rintro e w2 ⟨rfl, hb2⟩
        have HR2 := hide ((unhide HR).below hb2)
        have d0 := (hb2.cell hmbl).trans c0
        have d1 := (hb2.cell hmbl).trans c1
        have d2 := (hb2.cell hmbl).trans c2
        have hmb2 : mb < w2.heap.size := Nat.lt_of_lt_of_le hmbl hb2.size
        have hs2 := hb2.size
        have hb2' := hb2
        clear b0 b1 b2 bz bl c0 c1 c2 hmbl HR hb2 HNX
        have HBX2 := hide ((unhide HBX).below hb2')
        have b0 := (unhide HBX2).2.1 0 _ rfl
        have b1 := (unhide HBX2).2.1 1 _ rfl
        have b2 := (unhide HBX2).2.1 2 _ rfl
        have bz := (unhide HBX2).2.2 2
        have bl := (unhide HBX2).1
        clear hb2'
        rw [hxn] at hfe hfb
        obtain ⟨LL, hLL⟩ : ∃ LL, (L ++ (x.ms.take j).map fun m => (x.next, m.post, m.way)) = LL := ⟨_, rfl⟩
        have HROW := hide (unhide HR2).row
        rw [hLL] at HROW HYL
        have HLL := hide hLL
        have HXN := hide hxn
        have hll : LL.length ≤ 20001000000 := by have := unhide HYL; omega
        have n1 : ¬ mb = w2.heap.size := by omega
        have n2 : ¬ B = w2.heap.size := by omega
        have n3 : ¬ mb = w2.heap.size + 1 := by omega
        have n4 : ¬ B = w2.heap.size + 1 := by omega
        clear hLL hxn hfe
        go_wp2_with (at_builtin; refine wpList_append_lies _ rfl (.tmp 39) (.tmp 46) 36 rfl base 77 i1 (.agg #[.int .i64 0, .int .i64 0, .int .i64 0]) 3 24 Tryz.underlying36 hj1 hy0 hy1 hy2 rfl (by decide) _ _ _ rfl ((unhide HROW).below bw0) ⟨w2.heap.size + 1, 0, none⟩ 1 1 (paF (xn, m.post, m.way)) rfl rfl ?c1 (pa_one _) (by omega) ?c2 ?c3 ?c4 _ rfl ?_)
        case c1 => exact pa_news (t := (xn, m.post, m.way)) (boxedN _ _ _ (by simp))
        case c2 => unfold maxLen; omega
        case c3 => omega
        case c4 => (first | omega | (simp; omega))
        intro g gcap w5 hown hgrow hat hlt5
        have hbA : Below w2.heap.size w2 ((w2.alloc (.cells #[.int .i64 m.far, .int .i64 m.post, .int .i64 m.way] 167)).alloc (.cells #[.int .i64 xn, .int .i64 m.post, .int .i64 m.way] 77)) := bw0
        have hrow5 : PaRow w5 base (.slice (some ⟨g, 0, none⟩) (LL.length + 1) gcap) (LL ++ [(xn, m.post, m.way)]) := Row.snoc (f := paF) hown
        have HSTP : Hid (∀ (o c n : Nat), n = x.ms.length - (j + 1) → (j + 1 < x.ms.length → o = off + (j + 1) * 3) → x.ms.length - (j + 1) ≤ c → PsgAt w B base u x mb off L (j + 1) (.slice (some ⟨g, 0, none⟩) (LL.length + 1) gcap) (w5.setCell ⟨B, 2, none⟩ (.slice (some ⟨mb, o, none⟩) n c))) := fun o c n hn h1 h2 => hn ▸ ((unhide HR2).below hbA).step hlt (by rw [unhide HMJ]; exact unhide HFF) hgrow (by
          rw [unhide HTK, List.map_append, ← List.append_assoc, unhide HLL, List.map_singleton, unhide HXN]
          exact hrow5) (fun k hk => by
          simp [Value.ownBlock] at hk
          subst hk
          rcases hat with h | h
          · exact Or.inl h
          · exact Or.inr (by simp; omega)) (by have := hbA.size; omega) hmB h1 h2
        have hnB : (Value.slice ya (L.length + j) yc).ownBlock ≠ some B := (unhide HR2).own.1
        have hB5 := ((unhide HBX2).below hbA).grownE hgrow hnB
        have g0 := hB5.2.1 0 _ rfl
        have g1 := hB5.2.1 1 _ rfl
        have g2 := hB5.2.1 2 _ rfl
        have gz := hB5.2.2 2
        have gl := hB5.1
        clear hown hgrow hat hbA hrow5 hB5 b0 b1 b2 bz bl d0 d1 d2 hnB
        go_wp2_with fail
        all_goals refine ⟨⟨_, ⟨j + 1, by omega, ?_⟩, rfl, (unhide HXN).symm⟩, by have := unhide HYL; simp [slLen]; omega⟩
        all_goals exact unhide HSTP _ _ _ (by omega) (fun _ => by omega) (by omega)
      · have hfb : (x.ms[j].far + x.back == x.next) = false := by rw [beq_eq_false_iff_ne]; exact hfe
        have hff : ∀ h : j < x.ms.length, x.ms[j].far ≠ (x.ms.headD noMk).far := fun _ e => hfe (by unfold Wh.next; rw [e])
        have hgr := (grp_is hj (unhide HR).far hff).1
        have HGL : Hid ((grpW x).length = j) := by rw [hgr, List.length_take]; exact hide (by omega)
        obtain ⟨xf, hxf⟩ : ∃ xf, x.ms[j].far + x.back = xf := ⟨_, rfl⟩
        rw [hxf] at hfb HNX
        obtain ⟨xn, hxn⟩ : ∃ xn, x.next = xn := ⟨_, rfl⟩
        rw [hxn] at hfb
        clear hff hgr hfe hxf
        go_wp2_with fail
        refine (unhide HNX _ bw0).mono ?_
        rintro e w2 ⟨rfl, hb2⟩
        have HR2 := hide ((unhide HR).below hb2)
        clear hb2
        go_wp2_with fail
        go_ret
        rw [unhide HGL]
        exact ⟨_, rfl, unhide HR2⟩
    · have hpos' : ¬ (0 : Int) < ((x.ms.length - j : Nat) : Int) := by omega
      have hjl : j = x.ms.length := by omega
      have hgr := (grp_is hj (unhide HR).far (fun h => absurd h hlt)).1
      have HGL : Hid ((grpW x).length = j) := by rw [hgr, List.length_take]; exact hide (by omega)
      clear hgr hjl hoj
      go_wp2_with fail
      go_ret
      rw [unhide HGL]
      exact ⟨_, rfl, unhide HR⟩

end Go.Proofs.YtcggkfpkkhjdhaaGreat

