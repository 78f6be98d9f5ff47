import Derived.Test.YtjacbppeebnjfaaGreatPw6
import Derived.Test.YtjacbppeebnjfaaGreatMReadBy
import Derived.Test.YtjacbppeebnjfaaGreatMKt35
import Derived.Test.YtjacbppeebnjfaaGreatSpec21
import Derived.Test.YtjacbppeebnjfaaGreatMPlain2
import Derived.Test.YtjacbppeebnjfaaGreatMKt12
import Derived.Test.YtjacbppeebnjfaaGreatMRead
set_option linter.unusedSimpArgs false
namespace Go.Proofs.YtjacbppeebnjfaaGreat
open Go.RowKit

def paF (t : Int × Int × Int) : List Value := [.int .i64 t.1, .int .i64 t.2.1, .int .i64 t.2.2]
theorem paF_len (t : Int × Int × Int) : (paF t).length = 3 := rfl
abbrev PaRow (w : World) (base : Nat) (v : Value) (L : List (Int × Int × Int)) : Prop := Row w base 43 3 paF v L
theorem info_pass : (Tryz.prog.info? 43).map (fun i => (i.zero, i.size, i.bytes)) = some (some (.agg #[.int .i64 0, .int .i64 0, .int .i64 0]), 3, 24) := by kernel_rfl
theorem pa_one (t : Int × Int × Int) : ∀ u ∈ paF t, u.oneCell' = true := by
 intro u hu
 simp [paF] at hu
 rcases hu with rfl | rfl | rfl <;> rfl
theorem pa_news {w : World} {N : Nat} {t : Int × Int × Int} (h : Boxed w N [.int .i64 t.1, .int .i64 t.2.1, .int .i64 t.2.2]) : ∀ j u, (paF t)[j]? = some u → w.cell? ((⟨N, 0, none⟩ : Addr).add j) = some u := fun j u hu => by
 have hadd : (⟨N, 0, none⟩ : Addr).add j = ⟨N, j, none⟩ := by unfold Addr.add; split <;> simp_all
 rw [hadd]
 exact h.2.1 j u hu
theorem MksAt.drop {w : World} {b off : Nat} {ms : List Mrk} (h : MksAt w (some ⟨b, off, none⟩) ms) (j : Nat) : MksAt w (some ⟨b, off + j * 3, none⟩) (ms.drop j) := fun i hi => by
 rw [List.length_drop] at hi
 obtain ⟨b', off', e, hl, h1, h2, h3⟩ := h (j + i) (by omega)
 simp only [Option.some.injEq, Addr.mk.injEq, and_true] at e
 obtain ⟨rfl, rfl⟩ := e
 refine ⟨b, off + j * 3, rfl, hl, ?_, ?_, ?_⟩
 ·rw [List.getElem_drop, ← h1]; congr 2; omega
 ·rw [List.getElem_drop, ← h2]; congr 2; omega
 ·rw [List.getElem_drop, ← h3]; congr 2; omega
theorem grp_is {x : Wh} {j : Nat} (hj : j ≤ x.ms.length) (h : ∀ i (hi : i < x.ms.length), i < j → x.ms[i].far = (x.ms.headD noMk).far) (he : ∀ (hi : j < x.ms.length), x.ms[j].far ≠ (x.ms.headD noMk).far) : grpW x = x.ms.take j ∧ rstW x = x.ms.drop j := by
 obtain ⟨ax, bk, ms⟩ := x
 unfold grpW rstW
 dsimp only at h he hj ⊢
 generalize (ms.headD noMk).far = f at *
 induction ms generalizing j with
 | nil => simp
 | cons m r ih =>
  cases j with
  | zero =>
   have := he (by simp)
   simp only [List.getElem_cons_zero] at this
   rw [List.takeWhile_cons, List.dropWhile_cons, if_neg (by simpa using this), if_neg (by simpa using this)]
   simp
  | succ j =>
   have h0 := h 0 (by simp) (by omega)
   simp only [List.getElem_cons_zero] at h0
   rw [List.takeWhile_cons, List.dropWhile_cons, if_pos (by simpa using h0), if_pos (by simpa using h0), List.take_succ_cons, List.drop_succ_cons]
   obtain ⟨i1, i2⟩ := ih (j := j) (by simpa using hj) (fun i hi hij => by have := h (i + 1) (by simpa using hi) (by omega); simpa using this) (fun hi => by have := he (by simpa using hi); simpa using this)
   exact ⟨by rw [i1], i2⟩
theorem drop_ne {α : Type} {l : List α} {j : Nat} (h : j < l.length) : l.drop j ≠ [] := fun e => by
 have := congrArg List.length e
 rw [List.length_drop] at this
 simp at this
 omega
def slLen : Value → Nat
 | .slice _ n _ => n
 | _ => 0
structure PsgAt (w0 : World) (B base : Nat) (u0 : Value) (x : Wh) (mb off : Nat) (L : List (Int × Int × Int)) (j : Nat) (u : Value) (w : World) : Prop where
 box : ∃ o c, Boxed w B [.int .i64 x.axle, .int .i64 x.back, .slice (some ⟨mb, o, none⟩) (x.ms.length - j) c] ∧ (j < x.ms.length → o = off + j * 3) ∧ x.ms.length - j ≤ c
 row : PaRow w base u (L ++ (x.ms.take j).map fun m => (x.next, m.post, m.way))
 far : ∀ i (hi : i < x.ms.length), i < j → x.ms[i].far = (x.ms.headD noMk).far
 to_ : HpTo B w0 u0 w u
 ms : MksAt w (some ⟨mb, off, none⟩) x.ms
 own : u.ownBlock ≠ some B ∧ u.ownBlock ≠ some mb
theorem PsgAt.below {w0 : World} {B base : Nat} {u0 : Value} {x : Wh} {mb off : Nat} {L : List (Int × Int × Int)} {j : Nat} {u : Value} {w w' : World} (h : PsgAt w0 B base u0 x mb off L j u w) (hb : Below w.heap.size w w') : PsgAt w0 B base u0 x mb off L j u w' :=
 ⟨by obtain ⟨o, c, h1, h2⟩ := h.box; exact ⟨o, c, h1.below hb, h2⟩, h.row.below hb, h.far, h.to_.trans (HpTo.of_below _ hb), h.ms.below hb, h.own⟩
theorem PsgAt.step {w0 : World} {B base : Nat} {u0 : Value} {x : Wh} {mb off : Nat} {L : List (Int × Int × Int)} {j : Nat} {u u' : Value} {w w5 : World} (h : PsgAt w0 B base u0 x mb off L j u w) (hj : j < x.ms.length) (hf : x.ms[j].far = (x.ms.headD noMk).far) (hg : w.grownBy w5 u.ownBlock) (hr : PaRow w5 base u' (L ++ (x.ms.take (j + 1)).map fun m => (x.next, m.post, m.way))) (hat : ∀ k, u'.ownBlock = some k → u.ownBlock = some k ∨ w.heap.size ≤ k) (hmb : mb < w.heap.size) (hmB : mb ≠ B)
  {o c : Nat} (ho : j + 1 < x.ms.length → o = off + (j + 1) * 3) (hc : x.ms.length - (j + 1) ≤ c) : PsgAt w0 B base u0 x mb off L (j + 1) u' (w5.setCell ⟨B, 2, none⟩ (.slice (some ⟨mb, o, none⟩) (x.ms.length - (j + 1)) c)) := by
 obtain ⟨hne, hnm⟩ := h.own
 obtain ⟨o', c', hb0, _⟩ := h.box
 have hBl := hb0.1
 have hu1 : u'.ownBlock ≠ some B := fun e => by
  rcases hat B e with e' | e'
  ·exact hne e'
  ·omega
 have hu2 : u'.ownBlock ≠ some mb := fun e => by
  rcases hat mb e with e' | e'
  ·exact hnm e'
  ·omega
 have hbx := hb0.grownE hg hne
 have hsz : (w5.setCell ⟨B, 2, none⟩ (.slice (some ⟨mb, o, none⟩) (x.ms.length - (j + 1)) c)).heap.size = w5.heap.size := by simp [World.setCell]
 refine ⟨⟨o, c, by simpa using hbx.setAt (i := 2) (by simp) (.slice (some ⟨mb, o, none⟩) (x.ms.length - (j + 1)) c), ho, hc⟩, hr.block (fun k hk => Below.heap_setCell w5 ⟨B, 2, none⟩ _ k (fun e => hu1 (by rw [hk, e]))), fun i hi hij => ?_, h.to_.trans ⟨hg.os, hg.tape, hg.output, by rw [hsz]; exact hg.size, fun k hk h1 h2 => (Below.heap_setCell w5 ⟨B, 2, none⟩ _ k h1).trans (hg.block k hk (fun e => h2 e.symm)), hat⟩, h.ms.same (by rw [hsz]; exact hg.size) (fun b o e hl => ?_), hu1, hu2⟩
 ·by_cases e : i = j
  ·subst e; exact hf
  ·exact h.far i hi (by omega)
 ·simp only [Option.some.injEq, Addr.mk.injEq, and_true] at e
  obtain ⟨rfl, rfl⟩ := e
  exact (Below.heap_setCell w5 ⟨B, 2, none⟩ _ mb hmB).trans (hg.block mb hl (fun e => hnm e.symm))
set_option maxRecDepth 100000 in
set_option maxHeartbeats 8000000 in
theorem wpass_any (B base : Nat) (u : Value) (x : Wh) (mb off cap : Nat) (L : List (Int × Int × Int)) (w : World) (hb : Boxed w B [.int .i64 x.axle, .int .i64 x.back, .slice (some ⟨mb, off, none⟩) x.ms.length cap]) (hr : PaRow w base u L) (hm : MksAt w (some ⟨mb, off, none⟩) x.ms) (hf : WhFit x) (hmB : mb ≠ B) (ho1 : u.ownBlock ≠ some B) (ho2 : u.ownBlock ≠ some mb) (hbase : base ≤ w.heap.size) (hcap : x.ms.length ≤ cap) (hL : L.length ≤ 20000000000) (hml : x.ms.length ≤ 1000000) :
  Calls Tryz.prog 57 #[.pointer (some ⟨B, 0, none⟩), u] w fun e w' => ∃ u', e = .returned u' ∧ PsgAt w B base u x mb off L (grpW x).length u' w' := by
 obtain ⟨i1, hj1, hy0, hy1, hy2⟩ := info_parts info_pass
 have HP0 : Hid (PsgAt w B base u x mb off L 0 u w) := ⟨⟨off, cap, by simpa using hb, fun _ => by omega, by omega⟩, by simpa using hr, fun i _ h => by omega, HpTo.refl _ _ _, hm, ho1, ho2⟩
 have b0 := hb.2.1 0 _ rfl
 have b1 := hb.2.1 1 _ rfl
 have b2 := hb.2.1 2 _ rfl
 have bl := hb.1
 have HF : Hid (WhFit x) := hf
 have HM := hide hm
 have hne := hf.2.2.1
 have hpos : 0 < x.ms.length := List.length_pos_iff.2 hne
 have HMB : Hid (mb < w.heap.size) := by
  obtain ⟨b, o, e, hl, _⟩ := hm 0 hpos
  simp only [Option.some.injEq, Addr.mk.injEq, and_true] at e
  rw [e.1]
  exact hide hl
 clear hb hr hm hf hne ho1 ho2
 go_enter Tryz.func57, Tryz.ntmps57
 go_wp2_with fail
 refine (next_any' x _ cap w (unhide HM) (unhide HF)).mono ?_
 rintro e w1 ⟨rfl, hb1⟩
 have HP1 := hide ((unhide HP0).below hb1)
 clear hb1 b0 b1 b2 bl HP0 HM
 go_wp2_with fail
 go_loopw [1] (fun y wr => ∃ (j : Nat), j ≤ x.ms.length ∧ Hid (PsgAt w B base u x mb off L j y wr)) (fun y _ => L.length + x.ms.length - slLen y)
 case atStart => exact ⟨0, Nat.zero_le _, HP1⟩
 case round =>
  clear HP1
  obtain ⟨j, hj, HR⟩ := hrel
  rename World => wr
  have hsz0 := (unhide HR).to_.size
  obtain ⟨ya, yc, hye, _, _⟩ := (unhide HR).row.shape paF_len
  have hyl : (L ++ (x.ms.take j).map fun m => (x.next, m.post, m.way)).length = L.length + j := by simp; omega
  rw [hyl] at hye
  subst hye
  obtain ⟨o, cj, hbx, hoj, hcj⟩ := (unhide HR).box
  have b0 := hbx.2.1 0 _ rfl
  have b1 := hbx.2.1 1 _ rfl
  have b2 := hbx.2.1 2 _ rfl
  have bz := hbx.2.2 2
  have bl := hbx.1
  have HYL := hide hyl
  have HBX := hide hbx
  clear hyl hbx
  by_cases hlt : j < x.ms.length
  ·obtain rfl := hoj hlt
   clear hoj
   have hpos' : (0 : Int) < ((x.ms.length - j : Nat) : Int) := by omega
   have hfj := (unhide HF).2.2.2 _ (List.getElem_mem hlt)
   unfold MkFit at hfj
   have hbk := (unhide HF).2.1
   have HNX : Hid (∀ W, Below wr.heap.size wr W → Calls Tryz.prog 92 #[.agg #[.int .i64 x.axle, .int .i64 x.back, .slice (some ⟨mb, off + j * 3, none⟩) (x.ms.length - j) cj]] W fun e w' => e = .returned (.int .i64 (x.ms[j].far + x.back)) ∧ Below W.heap.size W w') := fun W hW => by
    have hfit : WhFit ⟨x.axle, x.back, x.ms.drop j⟩ := ⟨(unhide HF).1, (unhide HF).2.1, drop_ne hlt, fun m hm => (unhide HF).2.2.2 m (List.mem_of_mem_drop hm)⟩
    have h := next_any' ⟨x.axle, x.back, x.ms.drop j⟩ _ cj W (((unhide HR).ms.drop j).below hW) hfit
    dsimp only at h
    rw [List.length_drop] at h
    have hn : Wh.next ⟨x.axle, x.back, x.ms.drop j⟩ = x.ms[j].far + x.back := by
     unfold Wh.next
     dsimp only
     rw [List.drop_eq_getElem_cons hlt, List.headD_cons]
    rw [hn] at h
    exact h
   obtain ⟨mb', off', em, hmbl, c0, c1, c2⟩ := (unhide HR).ms j hlt
   simp only [Option.some.injEq, Addr.mk.injEq, and_true] at em
   obtain ⟨rfl, rfl⟩ := em
   by_cases hfe : x.ms[j].far + x.back = x.next
   ·have hfb : (x.ms[j].far + x.back == x.next) = true := by simpa using hfe
    have hff : x.ms[j].far = (x.ms.headD noMk).far := by unfold Wh.next at hfe; omega
    have HFF := hide hff
    have hc1 : 1 ≤ x.ms.length - j := by omega
    have HTK : Hid (x.ms.take (j + 1) = x.ms.take j ++ [x.ms[j]]) := (List.take_append_getElem hlt).symm
    obtain ⟨m, hm⟩ : ∃ m, x.ms[j] = m := ⟨_, rfl⟩
    rw [hm] at HFF HTK hfe hfb HNX c0 c1 c2 hfj
    have HMJ := hide hm
    obtain ⟨xn, hxn⟩ : ∃ xn, x.next = xn := ⟨_, rfl⟩
    clear hff hm
    go_wp2_with fail
    refine (unhide HNX _ bw0).mono ?_
    rintro e w2 ⟨rfl, hb2⟩
    have HR2 := hide ((unhide HR).below hb2)
    have d0 := (hb2.cell hmbl).trans c0
    have d1 := (hb2.cell hmbl).trans c1
    have d2 := (hb2.cell hmbl).trans c2
    have hmb2 : mb < w2.heap.size := Nat.lt_of_lt_of_le hmbl hb2.size
    have hs2 := hb2.size
    have hb2' := hb2
    clear b0 b1 b2 bz bl c0 c1 c2 hmbl HR hb2 HNX
    have HBX2 := hide ((unhide HBX).below hb2')
    have b0 := (unhide HBX2).2.1 0 _ rfl
    have b1 := (unhide HBX2).2.1 1 _ rfl
    have b2 := (unhide HBX2).2.1 2 _ rfl
    have bz := (unhide HBX2).2.2 2
    have bl := (unhide HBX2).1
    clear hb2'
    rw [hxn] at hfe hfb
    obtain ⟨LL, hLL⟩ : ∃ LL, (L ++ (x.ms.take j).map fun m => (x.next, m.post, m.way)) = LL := ⟨_, rfl⟩
    have HROW := hide (unhide HR2).row
    rw [hLL] at HROW HYL
    have HLL := hide hLL
    have HXN := hide hxn
    have hll : LL.length ≤ 20001000000 := by have := unhide HYL; omega
    have n1 : ¬ mb = w2.heap.size := by omega
    have n2 : ¬ B = w2.heap.size := by omega
    have n3 : ¬ mb = w2.heap.size + 1 := by omega
    have n4 : ¬ B = w2.heap.size + 1 := by omega
    clear hLL hxn hfe
    go_wp2_with (at_builtin; refine wpList_append_lies _ rfl (.tmp 39) (.tmp 46) 40 rfl base 43 i1 (.agg #[.int .i64 0, .int .i64 0, .int .i64 0]) 3 24 Tryz.underlying40 hj1 hy0 hy1 hy2 rfl (by decide) _ _ _ rfl ((unhide HROW).below bw0) ⟨w2.heap.size + 1, 0, none⟩ 1 1 (paF (xn, m.post, m.way)) rfl rfl ?c1 (pa_one _) (by omega) ?c2 ?c3 ?c4 _ rfl ?_)
    case c1 => exact pa_news (t := (xn, m.post, m.way)) (boxedN _ _ _ (by simp))
    case c2 => unfold maxLen; omega
    case c3 => omega
    case c4 => (first | omega | (simp; omega))
    intro g gcap w5 hown hgrow hat hlt5
    have hbA : Below w2.heap.size w2 ((w2.alloc (.cells #[.int .i64 m.far, .int .i64 m.post, .int .i64 m.way] 121)).alloc (.cells #[.int .i64 xn, .int .i64 m.post, .int .i64 m.way] 43)) := bw0
    have hrow5 : PaRow w5 base (.slice (some ⟨g, 0, none⟩) (LL.length + 1) gcap) (LL ++ [(xn, m.post, m.way)]) := Row.snoc (f := paF) hown
    have HSTP : Hid (∀ (o c n : Nat), n = x.ms.length - (j + 1) → (j + 1 < x.ms.length → o = off + (j + 1) * 3) → x.ms.length - (j + 1) ≤ c → PsgAt w B base u x mb off L (j + 1) (.slice (some ⟨g, 0, none⟩) (LL.length + 1) gcap) (w5.setCell ⟨B, 2, none⟩ (.slice (some ⟨mb, o, none⟩) n c))) := fun o c n hn h1 h2 => hn ▸ ((unhide HR2).below hbA).step hlt (by rw [unhide HMJ]; exact unhide HFF) hgrow (by
     rw [unhide HTK, List.map_append, ← List.append_assoc, unhide HLL, List.map_singleton, unhide HXN]
     exact hrow5) (fun k hk => by
     simp [Value.ownBlock] at hk
     subst hk
     rcases hat with h | h
     ·exact Or.inl h
     ·exact Or.inr (by simp; omega)) (by have := hbA.size; omega) hmB h1 h2
    have hnB : (Value.slice ya (L.length + j) yc).ownBlock ≠ some B := (unhide HR2).own.1
    have hB5 := ((unhide HBX2).below hbA).grownE hgrow hnB
    have g0 := hB5.2.1 0 _ rfl
    have g1 := hB5.2.1 1 _ rfl
    have g2 := hB5.2.1 2 _ rfl
    have gz := hB5.2.2 2
    have gl := hB5.1
    clear hown hgrow hat hbA hrow5 hB5 b0 b1 b2 bz bl d0 d1 d2 hnB
    go_wp2_with fail
    all_goals refine ⟨⟨_, ⟨j + 1, by omega, ?_⟩, rfl, (unhide HXN).symm⟩, by have := unhide HYL; simp [slLen]; omega⟩
    all_goals exact unhide HSTP _ _ _ (by omega) (fun _ => by omega) (by omega)
   ·have hfb : (x.ms[j].far + x.back == x.next) = false := by rw [beq_eq_false_iff_ne]; exact hfe
    have hff : ∀ h : j < x.ms.length, x.ms[j].far ≠ (x.ms.headD noMk).far := fun _ e => hfe (by unfold Wh.next; rw [e])
    have hgr := (grp_is hj (unhide HR).far hff).1
    have HGL : Hid ((grpW x).length = j) := by rw [hgr, List.length_take]; exact hide (by omega)
    obtain ⟨xf, hxf⟩ : ∃ xf, x.ms[j].far + x.back = xf := ⟨_, rfl⟩
    rw [hxf] at hfb HNX
    obtain ⟨xn, hxn⟩ : ∃ xn, x.next = xn := ⟨_, rfl⟩
    rw [hxn] at hfb
    clear hff hgr hfe hxf
    go_wp2_with fail
    refine (unhide HNX _ bw0).mono ?_
    rintro e w2 ⟨rfl, hb2⟩
    have HR2 := hide ((unhide HR).below hb2)
    clear hb2
    go_wp2_with fail
    go_ret
    rw [unhide HGL]
    exact ⟨_, rfl, unhide HR2⟩
  ·have hpos' : ¬ (0 : Int) < ((x.ms.length - j : Nat) : Int) := by omega
   have hjl : j = x.ms.length := by omega
   have hgr := (grp_is hj (unhide HR).far (fun h => absurd h hlt)).1
   have HGL : Hid ((grpW x).length = j) := by rw [hgr, List.length_take]; exact hide (by omega)
   clear hgr hjl hoj
   go_wp2_with fail
   go_ret
   rw [unhide HGL]
   exact ⟨_, rfl, unhide HR⟩

end Go.Proofs.YtjacbppeebnjfaaGreat

set_option linter.unusedSimpArgs false
namespace Go.Proofs.YtjacbppeebnjfaaGreat
open Go.RowKit

def ApS (y : Value) (ba : Option Addr) (xs : List St) : Prop := 0 < xs.length → ∀ a, ba = some a → y.ownBlock ≠ some a.block
theorem StsAt.same {w w' : World} {ba : Option Addr} {xs : List St} (h : StsAt 0 w ba xs) (hs : w.heap.size ≤ w'.heap.size) (hk : 0 < xs.length → ∀ a, ba = some a → a.block < w.heap.size → w'.heap[a.block]? = w.heap[a.block]?) : StsAt 0 w' ba xs := fun i hi => by
 obtain ⟨b, off, rfl, hb, c0, c1⟩ := h i hi
 have e := hk (by omega) _ rfl hb.2
 exact ⟨b, off, rfl, ⟨hb.1, Nat.lt_of_lt_of_le hb.2 hs⟩, (World.cell?_of_block (w := w) (a := ⟨b, off + i * 2, none⟩) e).trans c0, (World.cell?_of_block (w := w) (a := ⟨b, off + i * 2 + 1, none⟩) e).trans c1⟩
theorem StsAt.blk {w : World} {ba : Option Addr} {xs : List St} (h : StsAt 0 w ba xs) (hx : 0 < xs.length) : ∀ a, ba = some a → a.block < w.heap.size := fun a ha => by
 obtain ⟨b, off, e, hb, _⟩ := h 0 hx
 rw [ha] at e
 cases e
 exact hb.2
structure PsW (w : World) (base : Nat) (Bs : List (Nat × List Value)) (Ss : List (Option Addr × List St)) (y : Value) (L : List (Int × Int × Int)) (wr : World) : Prop where
 row : PaRow wr base y L
 box : ∀ p ∈ Bs, Boxed wr p.1 p.2 ∧ y.ownBlock ≠ some p.1
 sts : ∀ q ∈ Ss, StsAt 0 wr q.1 q.2 ∧ ApS y q.1 q.2
 bel : Below w.heap.size w wr
 lo : w.heap.size ≤ base
theorem PsW.below {w : World} {base : Nat} {Bs : List (Nat × List Value)} {Ss : List (Option Addr × List St)} {y : Value} {L : List (Int × Int × Int)} {wr w' : World} (h : PsW w base Bs Ss y L wr) (hb : Below wr.heap.size wr w') : PsW w base Bs Ss y L w' :=
 ⟨h.row.below hb, fun p hp => ⟨(h.box p hp).1.below hb, (h.box p hp).2⟩, fun q hq => ⟨(h.sts q hq).1.below hb, (h.sts q hq).2⟩, below_then h.bel hb, h.lo⟩
theorem PsW.add {w : World} {base : Nat} {Bs : List (Nat × List Value)} {Ss : List (Option Addr × List St)} {y : Value} {L : List (Int × Int × Int)} {wr w' : World} (h : PsW w base Bs Ss y L wr) (hg : wr.grownBy w' y.ownBlock) {y' : Value} {L' : List (Int × Int × Int)} (hr : PaRow w' base y' L') (hat : ∀ k, y'.ownBlock = some k → y.ownBlock = some k ∨ wr.heap.size ≤ k) : PsW w base Bs Ss y' L' w' := by
 refine ⟨hr, fun p hp => ?_, fun q hq => ?_, ?_, h.lo⟩
 ·obtain ⟨h1, h2⟩ := h.box p hp
  refine ⟨h1.grownE hg h2, fun e => ?_⟩
  rcases hat _ e with e' | e'
  ·exact h2 e'
  ·have := h1.1; omega
 ·obtain ⟨h1, h2⟩ := h.sts q hq
  refine ⟨h1.same hg.size fun hx a ha hl => hg.block _ hl fun e => h2 hx a ha e.symm, fun hx a ha e => ?_⟩
  rcases hat _ e with e' | e'
  ·exact h2 hx a ha e'
  ·have := h1.blk hx a ha; omega
 ·exact h.bel.trans ⟨hg.os, hg.tape, hg.output, hg.size, fun k hk => hg.block k (Nat.lt_of_lt_of_le hk h.bel.size) (fun e => by have := (h.row.lt k e.symm).1; have := h.lo; omega)⟩
theorem PsW.more {w : World} {base : Nat} {Bs : List (Nat × List Value)} {Ss : List (Option Addr × List St)} {y : Value} {L : List (Int × Int × Int)} {wr : World} (h : PsW w base Bs Ss y L wr) {N : Nat} {l : List Value} (hb : Boxed wr N l) (hn : y.ownBlock ≠ some N) : PsW w base ((N, l) :: Bs) Ss y L wr :=
 ⟨h.row, fun p hp => by
  rcases List.mem_cons.1 hp with rfl | hp
  ·exact ⟨hb, hn⟩
  ·exact h.box p hp, h.sts, h.bel, h.lo⟩
theorem PsW.moreS {w : World} {base : Nat} {Bs : List (Nat × List Value)} {Ss : List (Option Addr × List St)} {y : Value} {L : List (Int × Int × Int)} {wr : World} (h : PsW w base Bs Ss y L wr) {ba : Option Addr} {xs : List St} (hs : StsAt 0 wr ba xs) (hn : ApS y ba xs) : PsW w base Bs ((ba, xs) :: Ss) y L wr :=
 ⟨h.row, h.box, fun p hp => by
  rcases List.mem_cons.1 hp with rfl | hp
  ·exact ⟨hs, hn⟩
  ·exact h.sts p hp, h.bel, h.lo⟩
theorem PsW.less {w : World} {base : Nat} {Bs Bs' : List (Nat × List Value)} {Ss Ss' : List (Option Addr × List St)} {y : Value} {L : List (Int × Int × Int)} {wr : World} (h : PsW w base Bs Ss y L wr) (hB : ∀ p ∈ Bs', p ∈ Bs) (hS : ∀ q ∈ Ss', q ∈ Ss) : PsW w base Bs' Ss' y L wr :=
 ⟨h.row, fun p hp => h.box p (hB p hp), fun q hq => h.sts q (hS q hq), h.bel, h.lo⟩
theorem PsW.only {w : World} {base : Nat} {Bs : List (Nat × List Value)} {Ss : List (Option Addr × List St)} {y : Value} {L : List (Int × Int × Int)} {wr w' : World} {X : Nat} (h : PsW w base Bs Ss y L wr) (ho : Only (fun k => k = X) wr w') (hX : w.heap.size ≤ X) (hy : y.ownBlock ≠ some X) (hB : ∀ p ∈ Bs, p.1 ≠ X) (hS : ∀ q ∈ Ss, 0 < q.2.length → ∀ a, q.1 = some a → a.block ≠ X) : PsW w base Bs Ss y L w' :=
 ⟨h.row.only ho (fun k hk (e : k = X) => hy (e ▸ hk)), fun p hp => ⟨(h.box p hp).1.onlyS ho (hB p hp), (h.box p hp).2⟩, fun q hq => ⟨(h.sts q hq).1.same ho.size (fun hx a ha hl => ho.block _ hl (hS q hq hx a ha)), (h.sts q hq).2⟩, h.bel.trans (ho.below h.bel.size (fun k hk (e : k = X) => by omega)), h.lo⟩
theorem stRow_far {w : World} {N k bc : Nat} {bb : Option Addr} {xs : List St} (h : StRow w N (.slice bb k bc) xs) : StsAt 0 w bb xs ∧ ∀ a, bb = some a → N ≤ a.block ∧ a.block < w.heap.size := by
 refine ⟨stRow_at0' h, fun a ha => ?_⟩
 subst ha
 exact h.lt a.block rfl
theorem PsW.was {w : World} {base : Nat} {Bs : List (Nat × List Value)} {Ss : List (Option Addr × List St)} {y : Value} {L : List (Int × Int × Int)} {wr : World} {X : Nat} {l l' : List Value} {v0 v1 v2 v3 v4 : Value} (h : PsW w base Bs Ss y L wr) (hl : l = [v0, v1, v2, v3, v4]) {H : Nat} {nl : List Value} (hH : (H, nl) ∈ Bs) (hM : (X, l') ∈ Bs) (hl' : l'.length = 5) (hHX : H ≠ X) (hX : w.heap.size ≤ X) {bb : Option Addr} {xs : List St} (hs : (bb, xs) ∈ Ss) (hN : 0 < xs.length → ∀ a, bb = some a → a.block ≠ X) :
  PsW w base [(H, nl), (X, l)] [(bb, xs)] y L (((((wr.setCell ⟨X, 0, none⟩ v0).setCell ⟨X, 1, none⟩ v1).setCell ⟨X, 2, none⟩ v2).setCell ⟨X, 3, none⟩ v3).setCell ⟨X, 4, none⟩ v4) := by
 have hbx := h.box _ hM
 have ho : Only (fun k => k = X) wr (((((wr.setCell ⟨X, 0, none⟩ v0).setCell ⟨X, 1, none⟩ v1).setCell ⟨X, 2, none⟩ v2).setCell ⟨X, 3, none⟩ v3).setCell ⟨X, 4, none⟩ v4) :=
  ((((only_setCell (S := fun k => k = X) (p := ⟨X, 0, none⟩) wr rfl v0).trans (only_setCell (S := fun k => k = X) (p := ⟨X, 1, none⟩) _ rfl v1)).trans (only_setCell (S := fun k => k = X) (p := ⟨X, 2, none⟩) _ rfl v2)).trans (only_setCell (S := fun k => k = X) (p := ⟨X, 3, none⟩) _ rfl v3)).trans (only_setCell (S := fun k => k = X) (p := ⟨X, 4, none⟩) _ rfl v4)
 have h1 : PsW w base [(H, nl)] [(bb, xs)] y L wr := h.less (fun p hp => by rw [List.mem_singleton.1 hp]; exact hH) (fun q hq => by rw [List.mem_singleton.1 hq]; exact hs)
 have h2 := h1.only ho hX hbx.2 (fun p hp => by rw [List.mem_singleton.1 hp]; exact hHX) (fun q hq => by rw [List.mem_singleton.1 hq]; exact hN)
 obtain ⟨a0, a1, a2, a3, a4, rfl⟩ : ∃ a0 a1 a2 a3 a4, l' = [a0, a1, a2, a3, a4] := by
  match l', hl' with
  | [a0, a1, a2, a3, a4], _ => exact ⟨_, _, _, _, _, rfl⟩
 have hbn := ((((hbx.1.setAt (i := 0) (by simp) v0).setAt (i := 1) (by simp) v1).setAt (i := 2) (by simp) v2).setAt (i := 3) (by simp) v3).setAt (i := 4) (by simp) v4
 subst hl
 exact (h2.more hbn hbx.2).less (fun p hp => by simpa [or_comm] using hp) (fun q hq => hq)
theorem toldTo_len (qs : List (Int × Int)) (k : Int) (x y : Sp) (j : Nat) : (toldTo qs k x y j).length ≤ qs.length := by
 unfold toldTo
 refine Nat.le_trans (List.length_filterMap_le _ _) ?_
 rw [List.length_take, List.length_zipIdx]
 omega
theorem flatMap_le {α β : Type} (f : α → List β) (m : Nat) : ∀ l : List α, (∀ a ∈ l, (f a).length ≤ m) → (l.flatMap f).length ≤ l.length * m
 | [], _ => by simp
 | a :: r, h => by
  have h1 := flatMap_le f m r fun b hb => h b (List.mem_cons_of_mem _ hb)
  have h2 := h a List.mem_cons_self
  rw [List.flatMap_cons, List.length_append, List.length_cons, Nat.add_mul]
  omega
theorem axTo_len (n : Nt) (qs : List (Int × Int)) (k : Int) (s s' : Sp) (xs xs' : List St) (ax : List Int) (i : Nat) (hax : ax.length ≤ 60) (hq : qs.length ≤ 60) : (axTo n qs k s s' xs xs' ax i).length ≤ 3600 := by
 unfold axTo
 have h1 := flatMap_le (fun a => toldTo qs k (axleSp n s xs a) (axleSp n s' xs' a) qs.length) 60 (ax.take i) (fun a _ => Nat.le_trans (toldTo_len _ _ _ _ _) hq)
 have h2 : (ax.take i).length ≤ 60 := by rw [List.length_take]; omega
 omega
theorem outS_len (n : Nt) (qs : List (Int × Int)) (ax : List Int) (B0 : List (St × Int)) (hax : ax.length ≤ 60) (hq : qs.length ≤ 60) : ∀ us, (outS n qs ax B0 us).length ≤ us.length * 3600
 | [] => by simp [outS]
 | u :: us => by
  have h0 := outS_len n qs ax B0 hax hq us
  have h1 := flatMap_le (fun a => hitsAt n qs ((us.length : Int) + 1) ((u :: us ++ B0)[a.toNat]?)) 60 ax (fun a _ => by
   unfold hitsAt
   dsimp only
   split
   ·simp
   ·refine Nat.le_trans (List.length_filterMap_le _ _) ?_
    rw [List.length_zipIdx]
    exact hq)
  simp only [outS, List.length_append, List.length_cons]
  omega
theorem PsIs.len {n : Nt} {zs : List Int} {t : Tr} {ax : List Int} {qs : List (Int × Int)} {F : Int} {out : List (Int × Int × Int)} (h : PsIs n zs t ax qs F out) : out.length ≤ 36000000 := by
 rcases h with ⟨h1, us, h2, rfl⟩ | ⟨_, rfl⟩
 ·have h3 := outS_len n qs ax (bu n t.front t.back) h1.2.1.1 h1.2.2.1 us
  have h4 : us.length ≤ 10000 := by
   rcases h2 with ⟨_, _, _, _, _, h5, _⟩ | ⟨_, rfl⟩
   ·have := h1.1.2.2
    omega
   ·simp
  omega
 ·simp
theorem l1in_lit (x a b : Int) (w : World) : Calls Tryz.prog 26 #[.int .i64 x, .int .i64 a, .int .i64 b] w fun e w' => e = .returned (.bool (decide (a ≤ x ∧ x ≤ b))) ∧ Below w.heap.size w w' := by
 refine (l1in_any x a b w).mono ?_
 rintro e w' ⟨⟨rfl, h⟩ | ⟨rfl, h⟩, rfl⟩
 ·exact ⟨by rw [decide_eq_true h], Below.refl _ _⟩
 ·exact ⟨by rw [decide_eq_false h], Below.refl _ _⟩
end Go.Proofs.YtjacbppeebnjfaaGreat

set_option linter.unusedSimpArgs false
namespace Go.Proofs.YtjacbppeebnjfaaGreat
open Go.RowKit

def later (a : Int) (l : List (Int × Int × Int)) : List (Int × Int × Int) := l.map fun p => (p.1 + a, p.2)
theorem later_app (a : Int) (l r : List (Int × Int × Int)) : later a (l ++ r) = later a l ++ later a r := by simp [later]
theorem later_len (a : Int) (l : List (Int × Int × Int)) : (later a l).length = l.length := by simp [later]
theorem hits_later (n : Nt) (qs : List (Int × Int)) (k a : Int) (o : Option (St × Int)) : later a (hitsAt n qs k o) = hitsAt n qs (k + a) o := by
 unfold hitsAt later
 cases o with
 | none => rfl
 | some u =>
  dsimp only
  rw [List.map_filterMap]
  refine fm_congr ?_
  rintro ⟨p, i⟩ _
  dsimp only
  split <;> rfl
theorem flat_later {α : Type} (a : Int) (f : α → List (Int × Int × Int)) : ∀ l : List α, later a (l.flatMap f) = l.flatMap fun x => later a (f x)
 | [] => rfl
 | x :: r => by rw [List.flatMap_cons, List.flatMap_cons, later_app, flat_later a f r]
theorem outS_app {n : Nt} {qs : List (Int × Int)} {ax : List Int} {B0 B1 rest : List (St × Int)} {us : List (St × Int)} (he : us ++ B0 = B1 ++ rest) (hax : ∀ a ∈ ax, a.toNat ≤ B1.length) : ∀ vs, outS n qs ax B0 (vs ++ us) = outS n qs ax B0 us ++ later (us.length : Int) (outS n qs ax B1 vs)
 | [] => by simp [outS, later]
 | v :: r => by
  have ih := outS_app (n := n) (qs := qs) he hax r
  simp only [List.cons_append, outS]
  rw [ih, later_app, List.append_assoc, flat_later]
  congr 2
  rw [List.flatMap_def, List.flatMap_def]
  congr 1
  refine List.map_congr_left fun a ha => ?_
  rw [hits_later]
  congr 1
  ·rw [List.length_append]
   omega
  ·have e : v :: (r ++ us) ++ B0 = (v :: r ++ B1) ++ rest := by simp [he]
   have h1 := hax a ha
   rw [show v :: (r ++ us ++ B0) = v :: (r ++ us) ++ B0 from rfl, e, List.getElem?_append_left (by simp; omega)]
   rfl
theorem run_len {n : Nt} (hG : NetGood n) {zs : List Int} {t : Tr} (hT : TrainFits n t) {F : Int} (hF : 0 ≤ F) {m : Mv} {code joint : Int} (hr : RunIs n zs t.long F ⟨t.front, t.back, 0, []⟩ m code joint) : m.xs.length ≤ 200 := by
 have hl := hT.2.1
 rcases hr with ⟨_, h2, _⟩ | ⟨_, rfl, _⟩
 ·exact (h2.ok hG (by omega) (fits_mv hT hF)).len
 ·exact hT.2.2.1
theorem later_get {a : Int} {x y z : List (Int × Int × Int)} (h : x = y ++ later a z) : x.length = y.length + z.length ∧ (∀ i (hi : i < y.length) (hx : i < x.length), x[i] = y[i]) ∧ ∀ i (hi : i < z.length) (hx : y.length + i < x.length), x[y.length + i] = (z[i].1 + a, z[i].2) := by
 subst h
 refine ⟨by rw [List.length_append, later_len], fun i hi hx => List.getElem_append_left hi, fun i hi hx => ?_⟩
 rw [List.getElem_append_right (by omega)]
 simp [later]
theorem outS_far {n : Nt} {qs : List (Int × Int)} {ax : List Int} {B0 : List (St × Int)} : ∀ us, ∀ p ∈ outS n qs ax B0 us, 1 ≤ p.1 ∧ p.1 ≤ (us.length : Int)
 | [] => fun p hp => by simp [outS] at hp
 | u :: us => fun p hp => by
  simp only [outS, List.mem_append, List.mem_flatMap] at hp
  rcases hp with hp | ⟨a, _, hp⟩
  ·have := outS_far us p hp
   simp only [List.length_cons]
   omega
  ·have e : p.1 = (us.length : Int) + 1 := by
    unfold hitsAt at hp
    split at hp
    ·simp at hp
    ·simp only [List.mem_filterMap] at hp
     obtain ⟨⟨q, i⟩, _, h⟩ := hp
     dsimp only at h
     split at h
     ·cases h; rfl
     ·cases h
   simp only [List.length_cons]
   omega
theorem PsIs.far {n : Nt} {zs : List Int} {t : Tr} {ax : List Int} {qs : List (Int × Int)} {F : Int} {out : List (Int × Int × Int)} (h : PsIs n zs t ax qs F out) : ∀ p ∈ out, 1 ≤ p.1 ∧ p.1 ≤ 10000 := fun p hp => by
 rcases h with ⟨h1, us, h2, rfl⟩ | ⟨_, rfl⟩
 ·have h3 := outS_far us p hp
  have h4 : us.length ≤ 10000 := by
   rcases h2 with ⟨_, _, _, _, _, h5, _⟩ | ⟨_, rfl⟩
   ·have := h1.1.2.2
    omega
   ·simp
  omega
 ·simp at hp
theorem ps_two {n : Nt} {zs : List Int} {t : Tr} (hS : SitsRight n zs t) {a b : Int} (ha : 0 ≤ a) (hb : 0 ≤ b) (hab : a + b ≤ 10000) {m : Mv} {joint : Int} (hr : RunIs n zs t.long a ⟨t.front, t.back, 0, []⟩ m 0 joint) {ax : List Int} {qs : List (Int × Int)} {x y z : List (Int × Int × Int)}
  (hx : PsIs n zs t ax qs (a + b) x) (hy : PsIs n zs t ax qs a y) (hz : PsIs n zs ⟨m.s, t.long, m.xs⟩ ax qs b z) : x = y ++ later a z := by
 obtain ⟨⟨hN, hT⟩, hL, hA⟩ := hS
 have hG := netGood hN
 have hl := hT.2.1
 have hrun : SitsAll n zs t.front t.back ∧ Goes n zs t.long a ⟨t.front, t.back, 0, []⟩ m ∧ m.far = a := by
  rcases hr with ⟨h1, h2, h3⟩ | ⟨_, _, h3, _⟩
  ·refine ⟨h1, h2, ?_⟩
   rcases h3 with ⟨e, _⟩ | ⟨_, _, i, r, _, h4⟩
   ·exact e
   ·rcases h4 with ⟨h5, h6, _⟩ | ⟨_, _, h6, _⟩
    ·exact absurd h6.symm h5
    ·omega
  ·omega
 obtain ⟨_, hgo, hfar⟩ := hrun
 have hok := fits_mv (F := a) hT ha
 obtain ⟨c, us, hu, hul⟩ := goes_uc hG (by omega) hok hgo
 dsimp only at hu hul
 have hmt := hgo.mvt hG (by omega) (MvT.of (t := t) ⟨⟨hN, hT⟩, hL, hA⟩ ha)
 have hmf := hmt.fits hG hl
 have hms := hmt.sitsR hl hN hL
 by_cases hg : AxFit ax t.long ∧ PoFit n qs
 ·have gx : PsGood n zs t ax qs (a + b) := ⟨⟨⟨hN, hT⟩, hL, by omega, hab⟩, hg⟩
  have gy : PsGood n zs t ax qs a := ⟨⟨⟨hN, hT⟩, hL, ha, by omega⟩, hg⟩
  have gz : PsGood n zs ⟨m.s, t.long, m.xs⟩ ax qs b := ⟨⟨⟨hN, hmf⟩, hL, hb, by omega⟩, hg⟩
  have hs0 := hT.1
  have hx0 := backOk_steps hT.2.2.2
  rcases hx with ⟨_, ux, wx, rfl⟩ | ⟨no, _⟩
  ·rcases hy with ⟨_, uy, wy, rfl⟩ | ⟨no, _⟩
   ·rcases hz with ⟨_, uz, wz, rfl⟩ | ⟨no, _⟩
    ·have wy' : WayIs n zs t a us := Or.inl ⟨hA, c, _, _, hu, by omega, Or.inr (by omega)⟩
     obtain rfl := wy.unique hG hs0 hx0 wy'
     rcases wz with ⟨_, c2, s2, xs2, h1, h2, h3⟩ | ⟨no, _⟩
     ·dsimp only at h1
      have wx' : WayIs n zs t (a + b) (uz ++ uy) := Or.inl ⟨hA, _, _, _, hu.trans h1, by rw [List.length_append]; omega, h3.imp id fun e => by rw [List.length_append]; omega⟩
      obtain rfl := wx.unique hG hs0 hx0 wx'
      obtain ⟨_, rest, e, _⟩ := hu.win hG hs0 hx0
      have hbk := back_ch.1 hmf.2.2.2
      have h4 := behind_nonneg hmf.1
      have h5 := fl_len hG hbk.2.1
      have h6 := hbk.2.2.2
      dsimp only at h4 h5 h6
      have hlen : ((bu n m.s m.xs).length : Int) = behind n m.s + sumLen n m.xs := by
       rw [bu_eq, List.length_append, down_len]
       omega
      rw [outS_app e (fun k hk => by have := hg.1.mem k hk; omega)]
      dsimp only
      rw [show ((uy.length : Nat) : Int) = a by omega]
     ·exact absurd hms.2.2 no
    ·exact absurd gz no
   ·exact absurd gy no
  ·exact absurd gx no
 ·rcases hx with ⟨g, _⟩ | ⟨_, rfl⟩
  ·exact absurd g.2 hg
  ·rcases hy with ⟨g, _⟩ | ⟨_, rfl⟩
   ·exact absurd g.2 hg
   ·rcases hz with ⟨g, _⟩ | ⟨_, rfl⟩
    ·exact absurd g.2 hg
    ·rfl
end Go.Proofs.YtjacbppeebnjfaaGreat

set_option linter.unusedSimpArgs false
namespace Go.Proofs.YtjacbppeebnjfaaGreat
open Go.RowKit

def rowPo (ps : List (Int × Int)) (f : Nat → Value) (k : Nat) : Prop :=
 ∀ i (h : i < ps.length), i < k → f (i * 2) = .int .i64 ps[i].1 ∧ f (i * 2 + 1) = .int .i64 ps[i].2
def PosOwn (L U : Nat) (w : World) (a : Option Addr) (ps : List (Int × Int)) : Prop :=
 ∃ b f, a = some ⟨b, 0, none⟩ ∧ (L ≤ b ∧ b < U) ∧ w.rowIs b 94 (ps.length * 2) f ∧ rowPo ps f ps.length
theorem PosOwn.at {L U : Nat} {w : World} {a : Option Addr} {ps : List (Int × Int)} (h : PosOwn L U w a ps) : PoAt L w a ps := by
 obtain ⟨b, f, rfl, hb, hrow, hf⟩ := h
 intro i hi
 obtain ⟨e0, e1⟩ := hf i hi hi
 refine ⟨b, 0, rfl, ⟨hb.1, hrow.lt⟩, ?_, ?_⟩
 ·rw [← e0, hrow.cell (by omega)]; simp
 ·rw [← e1, hrow.cell (by omega)]; simp
theorem PosOwn.stays {L U : Nat} {w w' : World} {a : Option Addr} {ps : List (Int × Int)} (h : PosOwn L U w a ps) (hk : Stays L U w w') : PosOwn L U w' a ps := by
 obtain ⟨b, f, ha, hb, hrow, hf⟩ := h
 exact ⟨b, f, ha, hb, hrow.of_block (hk b hb.1 hb.2), hf⟩
theorem PosOwn.below {L U : Nat} {w w' : World} {a : Option Addr} {ps : List (Int × Int)} (h : PosOwn L U w a ps) (hb : Below w.heap.size w w') (hU : U ≤ w.heap.size) : PosOwn L U w' a ps := h.stays (stays_below hb hU)
theorem PosOwn.own {L U : Nat} {w : World} {a : Option Addr} {ps : List (Int × Int)} (h : PosOwn L U w a ps) : ∃ f, OwnL w a (ps.length * 2) f ∧ ∀ k, blk a k → L ≤ k ∧ k < U := by
 obtain ⟨b, f, rfl, hb, hrow, _⟩ := h
 refine ⟨f, fun _ => ⟨b, 0, rfl, own_row hrow⟩, fun k hk => ?_⟩
 obtain ⟨b', off, ha, rfl⟩ := hk
 simp at ha
 obtain ⟨rfl, _⟩ := ha
 exact hb

def PasAt (L : Nat) (w : World) (a : Option Addr) (zs : List (Int × Int × Int)) : Prop :=
 ∀ i (h : i < zs.length), ∃ b off, a = some ⟨b, off, none⟩ ∧ (L ≤ b ∧ b < w.heap.size) ∧ w.cell? ⟨b, off + i * 3, none⟩ = some (.int .i64 zs[i].1) ∧ w.cell? ⟨b, off + i * 3 + 1, none⟩ = some (.int .i64 zs[i].2.1) ∧ w.cell? ⟨b, off + i * 3 + 2, none⟩ = some (.int .i64 zs[i].2.2)
theorem PasAt.below {L : Nat} {w w' : World} {a : Option Addr} {zs : List (Int × Int × Int)} (h : PasAt L w a zs) (hb : Below w.heap.size w w') : PasAt L w' a zs := by
 intro i hi
 obtain ⟨b, off, ha, hlt, c0, c1, c2⟩ := h i hi
 exact ⟨b, off, ha, ⟨hlt.1, Nat.lt_of_lt_of_le hlt.2 hb.size⟩, (hb.cell hlt.2).trans c0, (hb.cell hlt.2).trans c1, (hb.cell hlt.2).trans c2⟩
theorem paRow_at {w : World} {base : Nat} {v : Value} {zs : List (Int × Int × Int)} (h : PaRow w base v zs) : ∃ a cap, v = .slice a zs.length cap ∧ zs.length ≤ cap ∧ PasAt base w a zs := by
 obtain ⟨a, cap, hv, hc, hx⟩ := h.shape paF_len
 refine ⟨a, cap, hv, hc, fun i hi => ?_⟩
 obtain ⟨g, rfl, hl, hcell⟩ := hx i hi
 exact ⟨g, 0, rfl, hl, by simpa [paF] using hcell 0 (by omega), by simpa [paF] using hcell 1 (by omega), by simpa [paF] using hcell 2 (by omega)⟩
end Go.Proofs.YtjacbppeebnjfaaGreat

