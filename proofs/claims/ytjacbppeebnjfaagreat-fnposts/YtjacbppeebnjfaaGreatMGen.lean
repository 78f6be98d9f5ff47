import Derived.Shelf.SlSortCmp.WholeK
import Derived.Shelf.SlicesQ.Reverse
import Derived.Test.YtjacbppeebnjfaaGreatProg
import Derived.Test.YtjacbppeebnjfaaGreatMPw1
import Derived.Test.YtjacbppeebnjfaaGreatMPlain
import Derived.Test.YtjacbppeebnjfaaGreatMKt17
import Derived.Test.YtjacbppeebnjfaaGreatPw3
namespace Go.Proofs
open Go.Shelf
def Tryz.laySort_ren : Go.Shelf.Ren := ⟨fun | 6 => 50 | 15 => 87 | 14 => 86 | 28 => 117 | 29 => 118 | 20 => 109 | 21 => 110 | 22 => 111 | 23 => 112 | 24 => 113 | 25 => 114 | 26 => 115 | 27 => 116 | 46 => 127 | 47 => 128 | 48 => 129 | 49 => 130 | 50 => 131 | 57 => 135 | n => n, fun | 22 => 88 | 24 => 121 | 25 => 123 | 3 => 3 | 39 => 156 | 0 => 0 | 53 => 219 | 55 => 50 | 4 => 4 | 46 => 213 | 45 => 212 | 50 => 128 | 5 => 5 | 9 => 9 | 66 => 228 | 70 => 232 | 76 => 237 | 77 => 185 | n => n, fun | n => n⟩
theorem Tryz.laySort : Go.Proofs.SlLaysF0.n6 Tryz.prog Tryz.laySort_ren := {
 mixed := by kernel_rfl
 f6 := ⟨Tryz.f50.name, by decide, Tryz.func50.trans (congrArg some (by kernel_rfl))⟩
 f14 := ⟨Tryz.f86.name, by decide, Tryz.func86.trans (congrArg some (by kernel_rfl))⟩
 f15 := Tryz.func87.trans (congrArg some (by kernel_rfl))
 f20 := ⟨Tryz.f109.name, by decide, Tryz.func109.trans (congrArg some (by kernel_rfl))⟩
 f21 := ⟨Tryz.f110.name, by decide, Tryz.func110.trans (congrArg some (by kernel_rfl))⟩
 f22 := ⟨Tryz.f111.name, by decide, Tryz.func111.trans (congrArg some (by kernel_rfl))⟩
 f23 := ⟨Tryz.f112.name, by decide, Tryz.func112.trans (congrArg some (by kernel_rfl))⟩
 f24 := ⟨Tryz.f113.name, by decide, Tryz.func113.trans (congrArg some (by kernel_rfl))⟩
 f25 := ⟨Tryz.f114.name, by decide, Tryz.func114.trans (congrArg some (by kernel_rfl))⟩
 f26 := ⟨Tryz.f115.name, by decide, Tryz.func115.trans (congrArg some (by kernel_rfl))⟩
 f27 := ⟨Tryz.f116.name, by decide, Tryz.func116.trans (congrArg some (by kernel_rfl))⟩
 f28 := Tryz.func117.trans (congrArg some (by kernel_rfl))
 f29 := Tryz.func118.trans (congrArg some (by kernel_rfl))
 f46 := ⟨Tryz.f127.name, by decide, Tryz.func127.trans (congrArg some (by kernel_rfl))⟩
 f47 := Tryz.func128.trans (congrArg some (by kernel_rfl))
 f48 := Tryz.func129.trans (congrArg some (by kernel_rfl))
 f49 := ⟨Tryz.f130.name, by decide, Tryz.func130.trans (congrArg some (by kernel_rfl))⟩
 f50 := ⟨Tryz.f131.name, by decide, Tryz.func131.trans (congrArg some (by kernel_rfl))⟩
 f57 := ⟨Tryz.f135.name, by decide, Tryz.func135.trans (congrArg some (by kernel_rfl))⟩
 t0 := Tryz.underlying0
 a0 := Tryz.isAgg0
 z0 := Tryz.sizeOf0
 v0 := Tryz.zeroValue0
 t3 := Tryz.underlying3
 a3 := Tryz.isAgg3
 z3 := Tryz.sizeOf3
 v3 := Tryz.zeroValue3
 t4 := Tryz.underlying4
 a4 := Tryz.isAgg4
 z4 := Tryz.sizeOf4
 v4 := Tryz.zeroValue4
 t5 := Tryz.underlying5
 a5 := Tryz.isAgg5
 z5 := Tryz.sizeOf5
 v5 := Tryz.zeroValue5
 t9 := Tryz.underlying9
 a9 := Tryz.isAgg9
 z9 := Tryz.sizeOf9
 v9 := Tryz.zeroValue9
 t22 := Tryz.underlying88
 a22 := Tryz.isAgg88
 z22 := Tryz.sizeOf88
 v22 := Tryz.zeroValue88
 t25 := Tryz.underlying123
 a25 := Tryz.isAgg123
 z25 := Tryz.sizeOf123
 v25 := Tryz.zeroValue123
 t39 := Tryz.underlying156
 a39 := Tryz.isAgg156
 z39 := Tryz.sizeOf156
 v39 := Tryz.zeroValue156
 t45 := Tryz.underlying212
 a45 := Tryz.isAgg212
 z45 := Tryz.sizeOf212
 v45 := Tryz.zeroValue212
 t46 := Tryz.underlying213
 a46 := Tryz.isAgg213
 z46 := Tryz.sizeOf213
 v46 := Tryz.zeroValue213
 t50 := Tryz.underlying128
 a50 := Tryz.isAgg128
 z50 := Tryz.sizeOf128
 v50 := Tryz.zeroValue128
 t53 := Tryz.underlying219
 a53 := Tryz.isAgg219
 z53 := Tryz.sizeOf219
 v53 := Tryz.zeroValue219
 t55 := Tryz.underlying50
 a55 := Tryz.isAgg50
 z55 := Tryz.sizeOf50
 v55 := Tryz.zeroValue50
 t66 := Tryz.underlying228
 a66 := Tryz.isAgg228
 z66 := Tryz.sizeOf228
 v66 := Tryz.zeroValue228
 t70 := Tryz.underlying232
 a70 := Tryz.isAgg232
 z70 := Tryz.sizeOf232
 v70 := Tryz.zeroValue232
 t76 := Tryz.underlying237
 a76 := Tryz.isAgg237
 z76 := Tryz.sizeOf237
 v76 := Tryz.zeroValue237
 t77 := Tryz.underlying185
 a77 := Tryz.isAgg185
 z77 := Tryz.sizeOf185
 v77 := Tryz.zeroValue185 }
def Tryz.layRev_ren : Go.Shelf.Ren := ⟨fun | 35 => 21 | n => n, fun | 22 => 77 | 23 => 81 | 3 => 3 | 4 => 4 | 0 => 0 | n => n, fun | n => n⟩
theorem Tryz.layRev : Go.Proofs.SlLaysE0.n35 Tryz.prog Tryz.layRev_ren := {
 mixed := by kernel_rfl
 f35 := ⟨Tryz.f21.name, by decide, Tryz.func21.trans (congrArg some (by kernel_rfl))⟩
 t0 := Tryz.underlying0
 a0 := Tryz.isAgg0
 z0 := Tryz.sizeOf0
 v0 := Tryz.zeroValue0
 t3 := Tryz.underlying3
 a3 := Tryz.isAgg3
 z3 := Tryz.sizeOf3
 v3 := Tryz.zeroValue3
 t4 := Tryz.underlying4
 a4 := Tryz.isAgg4
 z4 := Tryz.sizeOf4
 v4 := Tryz.zeroValue4
 t22 := Tryz.underlying77
 a22 := Tryz.isAgg77
 z22 := Tryz.sizeOf77
 v22 := Tryz.zeroValue77 }
end Go.Proofs

set_option linter.unusedSimpArgs false
namespace Go.Proofs.YtjacbppeebnjfaaGreat
open Go.RowKit Go.Shelf Go.Lib

section
variable {α : Type} [Inhabited α]
theorem flatK_list {f : α → List Value} {sz : Nat} (hf : ∀ x, (f x).length = sz) (hsz : 0 < sz) (xs : List α) (t : Nat) (ht : t < xs.length * sz) : (xs.flatMap f)[t]? = some ((Sort.flatK f sz xs.toArray)[t]!) := by
 have h1 : t / sz < xs.length := Nat.div_lt_of_lt_mul (by rw [Nat.mul_comm]; exact ht)
 have h2 : t % sz < sz := Nat.mod_lt _ hsz
 have h3 := flat_get hf xs (t / sz) (t % sz) h1 h2
 rw [show t / sz * sz + t % sz = t by rw [Nat.mul_comm]; exact Nat.div_add_mod t sz] at h3
 rw [h3, Sort.get_flatK f sz xs.toArray t (by simpa using ht)]
 have h4 : xs.toArray[t / sz]! = xs[t / sz] := by simp [h1]
 rw [h4, List.getElem?_eq_getElem (by rw [hf]; exact h2)]
 simp [hf, h2]
theorem flatK_size (f : α → List Value) (sz : Nat) (d : Array α) : (Sort.flatK f sz d).size = d.size * sz := by simp [Sort.flatK]
theorem row_holds {w : World} {base : Nat} {e : TypeId} {sz g n cap : Nat} {f : α → List Value} {xs : List α} (hf : ∀ x, (f x).length = sz) (hsz : 0 < sz) (h : Row w base e sz f (.slice (some ⟨g, 0, none⟩) n cap) xs) : Sort.HoldsK f sz w g 0 xs.toArray := by
 obtain ⟨h0, ⟨h1, _⟩ | ⟨g', cap', cur, h1, hb, hh, hc, hm, hs, ht⟩⟩ := h
 ·simp at h1
 ·simp only [Value.slice.injEq, Option.some.injEq, Addr.mk.injEq, and_true] at h1
  obtain ⟨rfl, rfl, rfl⟩ := h1
  intro t hlt
  rw [flatK_size, List.size_toArray] at hlt
  have h3 := flatK_list hf hsz xs t hlt
  rw [← ht, List.getElem?_take_of_lt hlt] at h3
  refine ⟨?_, ?_⟩
  ·unfold World.cell?
   rw [hh]
   simpa using h3
  ·unfold World.frozen?
   rw [hh]
   simp
theorem row_laid {w : World} {base : Nat} {e : TypeId} {sz g n cap m : Nat} {f : α → List Value} {xs ys : List α} {os : Array Obj} (hf : ∀ x, (f x).length = sz) (hsz : 0 < sz) (h : Row w base e sz f (.slice (some ⟨g, 0, none⟩) n cap) xs) (hl : ys.length = xs.length) :
  Row (Sort.grow (Sort.putRowK f sz (Sort.ahead w m) g 0 ys.toArray) os) base e sz f (.slice (some ⟨g, 0, none⟩) n cap) ys ∧ HpTo g w (.slice none 0 0) (Sort.grow (Sort.putRowK f sz (Sort.ahead w m) g 0 ys.toArray) os) (.slice none 0 0) := by
 have hg := (h.lt g rfl).2
 obtain ⟨h0, ⟨h1, _⟩ | ⟨g', cap', cur, h1, hb, hh, hc, hm, hs, ht⟩⟩ := h
 ·simp at h1
 ·simp only [Value.slice.injEq, Option.some.injEq, Addr.mk.injEq, and_true] at h1
  obtain ⟨rfl, rfl, rfl⟩ := h1
  have hheap : ∀ k, k < w.heap.size → (Sort.grow (Sort.putRowK f sz (Sort.ahead w m) g 0 ys.toArray) os).heap[k]? = (w.heap.modify g (Sort.onCells (Sort.putCells id 0 (Sort.flatK f sz ys.toArray))))[k]? := fun k hk => by
   show ((w.heap.modify g _) ++ os)[k]? = _
   rw [Array.getElem?_append, if_pos (by simpa using hk)]
  refine ⟨⟨flat_len hf ys, Or.inr ⟨g, cap, Sort.putCells id 0 (Sort.flatK f sz ys.toArray) cur, by rw [hl], hb, ?_, by rw [hl]; exact hc, hm, by simpa [Sort.putCells] using hs, ?_⟩⟩, rfl, rfl, rfl, ?_, fun k hk hne _ => ?_, fun k hk => by simp [Value.ownBlock] at hk⟩
  ·rw [hheap g hg, Array.getElem?_modify, if_pos rfl, hh]
   rfl
  ·apply List.ext_getElem?
   intro t
   by_cases hlt : t < ys.length * sz
   ·rw [List.getElem?_take_of_lt hlt, flatK_list hf hsz ys t hlt]
    have hle : ys.length * sz ≤ cur.size := by rw [hs, hl]; exact Nat.mul_le_mul_right _ hc
    rw [Array.getElem?_toList]
    simp [Sort.putCells, flatK_size, hlt, show t < cur.size by omega]
   ·rw [List.getElem?_eq_none (by rw [List.length_take]; omega), List.getElem?_eq_none (by rw [flat_len hf ys]; omega)]
  ·show w.heap.size ≤ ((w.heap.modify g _) ++ os).size
   simp
  ·rw [hheap k hk, Array.getElem?_modify, if_neg (fun e => hne e.symm)]
end
instance : Inhabited Mrk := ⟨noMk⟩
instance : Inhabited Sx := ⟨⟨⟨0, 0⟩, 0, 0⟩⟩
theorem mkF_len (m : Mrk) : (mkF m).length = 3 := rfl
abbrev MkRow (w : World) (base : Nat) (v : Value) (ms : List Mrk) : Prop := Row w base 121 3 mkF v ms
def Mlt' (x y : Mrk) : Prop := x.far < y.far ∨ (x.far = y.far ∧ x.post < y.post)
instance (x y : Mrk) : Decidable (Mlt' x y) := by unfold Mlt'; infer_instance
theorem cmpM_lt (x y : Mrk) : ltOf cmpM x y = decide (Mlt' x y) := by
 unfold ltOf cmpM orI cmpI Mlt'
 by_cases h1 : x.far < y.far
 ·simp [h1]
 ·by_cases h2 : y.far < x.far
  ·have : ¬ x.far = y.far := by omega
   simp [h1, h2, this]
  ·have e : x.far = y.far := by omega
   by_cases h3 : x.post < y.post
   ·simp [e, h3]
   ·by_cases h4 : y.post < x.post <;> simp [e, h3, h4]
theorem swoM : Sort.SWO (ltOf cmpM) where
 irrefl x := by rw [cmpM_lt]; simp [Mlt']
 trans x y z h1 h2 := by
  rw [cmpM_lt] at h1 h2 ⊢
  have g1 := of_decide_eq_true h1
  have g2 := of_decide_eq_true h2
  refine decide_eq_true ?_
  unfold Mlt' at *
  omega
 ntrans x y z h1 h2 := by
  rw [cmpM_lt] at h1 h2 ⊢
  have g1 := of_decide_eq_false h1
  have g2 := of_decide_eq_false h2
  refine decide_eq_false ?_
  unfold Mlt' at *
  omega
theorem mk_one (x : Mrk) : ∀ v ∈ mkF x, v.oneCell' = true := by
 intro u hu
 simp [mkF] at hu
 rcases hu with rfl | rfl | rfl <;> rfl
theorem sortM_any (g n cap base : Nat) (M : List Mrk) (w : World) (h : MkRow w base (.slice (some ⟨g, 0, none⟩) n cap) M) (hn : n = M.length) (hl : M.length ≤ 10000000) :
  Calls Tryz.prog 50 #[.slice (some ⟨g, 0, none⟩) n cap, .func (.func 51) #[] #[]] w fun e w' => e = .returned (.tuple #[]) ∧ ∃ M', M'.Perm M ∧ M'.Pairwise (fun x y => ¬ Mlt y x) ∧ MkRow w' base (.slice (some ⟨g, 0, none⟩) n cap) M' ∧ HpTo g w (.slice none 0 0) w' (.slice none 0 0) := by
 have eg : ∀ args w, (callFunc 51 args).run Tryz.prog w = .ok (.enter 51 args) w := enters_of Tryz.func51 (by kernel_rfl) rfl
 have hcmp : CmpLays Tryz.prog 51 #[] mkF 3 cmpM g 0 M.toArray.size w := fun m os dk _ x y => markCompare_any x y _
 have hcon := AnyQ.slices_SortFunc Tryz.laySort 3 Tryz.isAgg121 Tryz.sizeOf121 mkF mkF_len mk_one cmpM swoM 51 #[] g 0 cap M.toArray w eg hcmp (row_holds mkF_len (by omega) h) (h.lt g rfl).2 (by simp; omega)
 change Calls Tryz.prog 50 _ _ _ at hcon
 rw [List.size_toArray, ← hn] at hcon
 refine hcon.mono ?_
 rintro e w' ⟨rfl, d', m, os, hp, hs, rfl⟩
 obtain ⟨p1, _, p3⟩ := hp
 have p1 : d'.size = M.length := by simpa using p1
 have hx : (d'.extract 0 n).toList = d'.toList := by rw [show n = d'.size by omega]; simp
 have hx2 : (M.toArray.extract 0 n).toList = M := by rw [hn]; simp
 rw [hx, hx2] at p3
 have hrl := row_laid (m := m) (os := os) mkF_len (by omega) h (ys := d'.toList) (by simpa using p1)
 refine ⟨rfl, d'.toList, p3, ?_, hrl.1, hrl.2⟩
 rw [List.pairwise_iff_getElem]
 intro i j hi hj hij
 rw [Array.length_toList] at hi hj
 have := hs i j (Nat.zero_le _) hij (by omega)
 rw [cmpM_lt] at this
 have this := of_decide_eq_false this
 unfold Mlt' at this
 rw [getElem!_pos d' i hi, getElem!_pos d' j hj] at this
 simp only [Array.getElem_toList]
 unfold Mlt
 exact this

theorem sx_ones (x : Sx) : ∀ v ∈ sxF x, v.oneCell' = true := by
 intro u hu
 simp [sxF] at hu
 rcases hu with rfl | rfl | rfl | rfl <;> rfl
theorem revX_any (g n cap base : Nat) (xs : List Sx) (w : World) (h : SxRow w base (.slice (some ⟨g, 0, none⟩) n cap) xs) (hn : n = xs.length) (hl : xs.length ≤ 10000000) :
  Calls Tryz.prog 21 #[.slice (some ⟨g, 0, none⟩) n cap] w fun e w' => e = .returned (.tuple #[]) ∧ SxRow w' base (.slice (some ⟨g, 0, none⟩) n cap) xs.reverse ∧ HpTo g w (.slice none 0 0) w' (.slice none 0 0) := by
 have hcon := AnyQ.slices_Reverse Tryz.layRev 4 Tryz.isAgg81 Tryz.sizeOf81 sxF sxF_len sx_ones g 0 cap xs.toArray w (row_holds sxF_len (by omega) h) (by simp; omega)
 change Calls Tryz.prog 21 _ _ _ at hcon
 rw [List.size_toArray, ← hn] at hcon
 refine hcon.mono ?_
 rintro e w' ⟨rfl, m, rfl⟩
 have hrl := row_laid (m := m) (os := #[]) sxF_len (by omega) h (ys := xs.reverse) (by simp)
 have eg : ∀ W : World, Sort.grow W #[] = W := fun W => by simp [Sort.grow]
 rw [eg] at hrl
 have er : xs.toArray.reverse = xs.reverse.toArray := by simp
 rw [er]
 exact ⟨rfl, hrl.1, hrl.2⟩

end Go.Proofs.YtjacbppeebnjfaaGreat

