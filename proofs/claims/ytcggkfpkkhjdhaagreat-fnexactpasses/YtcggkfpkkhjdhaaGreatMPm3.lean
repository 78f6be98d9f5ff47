import Derived.Test.YtcggkfpkkhjdhaaGreatMPs2
import Derived.Test.YtcggkfpkkhjdhaaGreatMPlain7
import Derived.Test.YtcggkfpkkhjdhaaGreatMSpec9
import Derived.Test.YtcggkfpkkhjdhaaGreatMKt12
import Derived.Test.YtcggkfpkkhjdhaaGreatMPl1
import Derived.Shelf.SlSortCmp.WholeK
import Derived.Shelf.SlicesQ.Reverse
import Derived.Test.YtcggkfpkkhjdhaaGreatProg
set_option linter.unusedSimpArgs false
namespace Go.Proofs.YtcggkfpkkhjdhaaGreat
open Go.RowKit

/-! ### What Passes answers -/

/-- The places that a train comes to, the newest first. -/
def WayIs (n : Nt) (zs : List Int) (t : Tr) (F : Int) (us : List (St × Int)) : Prop :=
  (SitsAll n zs t.front t.back ∧ ∃ c s xs, UC n zs t.long t.front t.back c us s xs ∧ (us.length : Int) ≤ F ∧ (Stuck n zs s xs ∨ (us.length : Int) = F)) ∨ (¬ SitsAll n zs t.front t.back ∧ us = [])
theorem WayIs.unique {n : Nt} (hG : NetGood n) {zs : List Int} {t : Tr} {F : Int} (hs : SpotOk n t.front) (hx : ∀ x ∈ t.back, StepOk n x) {us us' : List (St × Int)} (h : WayIs n zs t F us) (g : WayIs n zs t F us') : us = us' := by
  rcases h with ⟨h0, c, s, xs, h1, h2, h3⟩ | ⟨h0, h1⟩
  · rcases g with ⟨g0, c', s', xs', g1, g2, g3⟩ | ⟨g0, g1⟩
    · exact UC.meet hG hs hx (F := F.toNat) h1 g1 (by omega) (by omega) (h3.imp id fun e => by omega) (g3.imp id fun e => by omega)
    · exact absurd h0 g0
  · rcases g with ⟨g0, _⟩ | ⟨g0, g1⟩
    · exact absurd g0 h0
    · rw [h1, g1]
def PsGood (n : Nt) (zs : List Int) (t : Tr) (ax : List Int) (qs : List (Int × Int)) (F : Int) : Prop := (TrainRight n t ∧ LiesFit n.joints zs ∧ (0 ≤ F ∧ F ≤ 10000)) ∧ AxFit ax t.long ∧ PoFit n qs
def PsIs (n : Nt) (zs : List Int) (t : Tr) (ax : List Int) (qs : List (Int × Int)) (F : Int) (out : List (Int × Int × Int)) : Prop :=
  (PsGood n zs t ax qs F ∧ ∃ us, WayIs n zs t F us ∧ out = outS n qs ax (bu n t.front t.back) us) ∨ (¬ PsGood n zs t ax qs F ∧ out = [])
theorem PsIs.unique {n : Nt} {zs : List Int} {t : Tr} {ax : List Int} {qs : List (Int × Int)} {F : Int} {o o' : List (Int × Int × Int)} (h : PsIs n zs t ax qs F o) (g : PsIs n zs t ax qs F o') : o = o' := by
  rcases h with ⟨h0, us, h1, rfl⟩ | ⟨h0, rfl⟩
  · rcases g with ⟨_, us', g1, rfl⟩ | ⟨g0, _⟩
    · rw [h1.unique (netGood h0.1.1.1) h0.1.1.2.1 (backOk_steps h0.1.1.2.2.2.2) g1]
    · exact absurd h0 g0
  · rcases g with ⟨g0, _⟩ | ⟨_, rfl⟩
    · exact absurd g0 h0
    · rfl
/-- The places of a body's stretches. -/
theorem ur_body {n : Nt} (hG : NetGood n) (sp : Int) : ∀ (xs : List St) (along long : Int) (at_ : St), 0 ≤ along → 0 < long → (∀ x ∈ xs, StepOk n x) → (∀ j, j < xs.length → along + sumLen n (xs.take j) < long) → long ≤ along + sumLen n xs → sp = along + sumLen n xs - long →
    (stretchL n sp along at_ xs).flatMap unR = (down at_ along.toNat ++ fl n xs).take long.toNat ∧ lenS (stretchL n sp along at_ xs) = long ∧ ∀ x ∈ stretchL n sp along at_ xs, LowHigh x
  | [], along, long, at_, h0, hl, _, _, he, hsp => by
    rw [sumLen_nil] at he hsp
    refine ⟨?_, ?_, fun x hx => ?_⟩
    · simp only [stretchL, List.flatMap_cons, List.flatMap_nil, List.append_nil, fl]
      unfold unR
      dsimp only
      rw [show along - sp = long by omega]
    · simp only [stretchL, lenS]
      omega
    · simp only [stretchL, List.mem_singleton] at hx
      subst hx
      exact ⟨by dsimp only; omega, by dsimp only; omega⟩
  | y :: r, along, long, at_, h0, hl, hx, ht, he, hsp => by
    have h1 := ht 0 (by simp)
    simp only [List.take_zero, sumLen_nil] at h1
    have hy := hx y List.mem_cons_self
    have hyl := hG.len hy.1.1 hy.1.2
    rw [sumLen_cons] at he hsp
    obtain ⟨i1, i2, i3⟩ := ur_body hG sp r (lenOf n y.piece) (long - along) y (by omega) (by omega) (fun x h => hx x (List.mem_cons_of_mem _ h)) (fun j hj => by
      have := ht (j + 1) (by simp; omega)
      rw [List.take_succ_cons, sumLen_cons] at this
      omega) (by omega) (by omega)
    refine ⟨?_, ?_, fun x h => ?_⟩
    · simp only [stretchL, List.flatMap_cons]
      rw [i1]
      have e1 : unR ⟨at_, 0, along⟩ = down at_ along.toNat := by
        unfold unR
        dsimp only
        rw [show along - 0 = along by omega, List.take_of_length_le (by rw [down_len]; omega)]
      have e2 : (down at_ along.toNat ++ fl n (y :: r)).take long.toNat = down at_ along.toNat ++ (fl n (y :: r)).take (long - along).toNat := by
        rw [List.take_append, down_len, List.take_of_length_le (by rw [down_len]; omega), show (long - along).toNat = long.toNat - along.toNat by omega]
      rw [e1, e2, fl_cons]
    · simp only [stretchL, lenS]
      omega
    · simp only [stretchL, List.mem_cons] at h
      rcases h with rfl | h
      · exact ⟨by dsimp only; omega, by dsimp only; omega⟩
      · exact i3 x h
theorem outS_take {n : Nt} {qs : List (Int × Int)} {ax : List Int} {B0 : List (St × Int)} {long : Nat} (hax : ∀ a ∈ ax, 0 ≤ a ∧ a ≤ (long : Int)) (us : List (St × Int)) : outS n qs ax (B0.take long) us = outS n qs ax B0 us := by
  induction us with
  | nil => rfl
  | cons u us ih =>
    simp only [outS]
    rw [ih]
    congr 1
    have : ∀ a ∈ ax, hitsAt n qs ((us.length : Int) + 1) ((u :: us ++ B0.take long)[a.toNat]?) = hitsAt n qs ((us.length : Int) + 1) ((u :: us ++ B0)[a.toNat]?) := fun a ha => by
      congr 1
      have h2 := hax a ha
      by_cases hl : a.toNat < (u :: us).length
      · rw [List.getElem?_append_left hl, List.getElem?_append_left hl]
      · rw [List.getElem?_append_right (by omega), List.getElem?_append_right (by omega)]
        rw [List.getElem?_take_of_lt (by simp at hl ⊢; omega)]
    rw [List.flatMap_def, List.flatMap_def, List.map_congr_left this]
theorem lenS_rev (l : List Sx) : lenS l.reverse = lenS l := by
  induction l with
  | nil => rfl
  | cons x r ih =>
    rw [List.reverse_cons, lenS_app, ih]
    simp only [lenS]
    omega
theorem impl_out {n : Nt} (hG : NetGood n) {s : Sp} {xs : List St} {long : Int} (hs : SpotOk n s) (hl : 0 < long) (hx : ∀ x ∈ xs, StepOk n x) (ht : ∀ j, j < xs.length → behind n s + sumLen n (xs.take j) < long) (he : long ≤ behind n s + sumLen n xs) {sx : List Sx} (hsx : ∀ x ∈ sx, LowHigh x) {qs : List (Int × Int)} {ax : List Int} (hax : ∀ a ∈ ax, 0 ≤ a ∧ a ≤ long) {M : List Mrk}
    (hM : M.Perm (marksI n qs (-long) ((stretchL n (spareOf n long s xs) (behind n s) ⟨s.piece, s.way⟩ xs).reverse ++ sx))) {L : List Tg} (hL : L.Pairwise Tlt) (hm : ∀ t, t ∈ L ↔ TgOf ax M (lenS sx) t) : L.map Tg.un = outS n qs ax (bu n s xs) (ur sx) := by
  obtain ⟨b1, b2, b3⟩ := ur_body hG (spareOf n long s xs) xs (behind n s) long ⟨s.piece, s.way⟩ (behind_nonneg hs) hl hx ht he rfl
  have hP : ∀ x ∈ (stretchL n (spareOf n long s xs) (behind n s) ⟨s.piece, s.way⟩ xs).reverse ++ sx, LowHigh x := fun x h => by
    rcases List.mem_append.1 h with h | h
    · exact b3 x (List.mem_reverse.1 h)
    · exact hsx x h
  have hmem := mem_marks (n := n) (qs := qs) _ (-long) [] [] hP (fun m => ⟨fun h => by simp at h, fun ⟨u, p, _, h2, _⟩ => by simp at h2⟩)
  have e1 : ur ((stretchL n (spareOf n long s xs) (behind n s) ⟨s.piece, s.way⟩ xs).reverse ++ sx) = ur sx ++ (bu n s xs).take long.toNat := by
    unfold ur
    rw [List.reverse_append, List.flatMap_append, List.reverse_reverse, b1, bu_eq]
  have e2 : lenS (stretchL n (spareOf n long s xs) (behind n s) ⟨s.piece, s.way⟩ xs).reverse = long := by rw [lenS_rev, b2]
  have e3 := ur_len hsx
  rw [e1, lenS_app, e2] at hmem
  rw [← outS_take (long := long.toNat) (fun a ha => by have := hax a ha; omega)]
  refine passes_are (fun a ha => (hax a ha).1) hL fun t => ?_
  rw [hm t]
  unfold TgOf
  rw [e3]
  constructor
  · rintro ⟨h1, h2, a, h3, h4⟩
    have := (hmem _).1 (by rw [List.nil_append]; exact hM.mem_iff.1 h4)
    rw [List.append_nil, show -long + (long + lenS sx) = lenS sx by omega] at this
    exact ⟨h1, h2, a, h3, this⟩
  · rintro ⟨h1, h2, a, h3, h4⟩
    have := (hmem ⟨t.k - a, t.post, t.way⟩).2 (by rw [List.append_nil, show -long + (long + lenS sx) = lenS sx by omega]; exact h4)
    rw [List.nil_append] at this
    exact ⟨h1, h2, a, h3, hM.mem_iff.2 this⟩
end Go.Proofs.YtcggkfpkkhjdhaaGreat

namespace Go.Proofs
open Go.Shelf
def Tryz.laySort_ren : Go.Shelf.Ren := ⟨fun | 6 => 81 | 15 => 115 | 14 => 114 | 28 => 142 | 29 => 143 | 20 => 134 | 21 => 135 | 22 => 136 | 23 => 137 | 24 => 138 | 25 => 139 | 26 => 140 | 27 => 141 | 46 => 155 | 47 => 156 | 48 => 157 | 49 => 158 | 50 => 159 | 57 => 164 | n => n, fun | 22 => 110 | 24 => 167 | 25 => 169 | 3 => 3 | 39 => 215 | 0 => 0 | 53 => 256 | 55 => 258 | 4 => 4 | 46 => 250 | 45 => 249 | 50 => 174 | 5 => 5 | 9 => 9 | 66 => 268 | 70 => 272 | 76 => 278 | 77 => 194 | n => n, fun | n => n⟩
theorem Tryz.laySort : Go.Proofs.SlLaysF0.n6 Tryz.prog Tryz.laySort_ren := {
  mixed := by kernel_rfl
  f6 := ⟨Tryz.f81.name, by decide, Tryz.func81.trans (congrArg some (by kernel_rfl))⟩
  f14 := ⟨Tryz.f114.name, by decide, Tryz.func114.trans (congrArg some (by kernel_rfl))⟩
  f15 := Tryz.func115.trans (congrArg some (by kernel_rfl))
  f20 := ⟨Tryz.f134.name, by decide, Tryz.func134.trans (congrArg some (by kernel_rfl))⟩
  f21 := ⟨Tryz.f135.name, by decide, Tryz.func135.trans (congrArg some (by kernel_rfl))⟩
  f22 := ⟨Tryz.f136.name, by decide, Tryz.func136.trans (congrArg some (by kernel_rfl))⟩
  f23 := ⟨Tryz.f137.name, by decide, Tryz.func137.trans (congrArg some (by kernel_rfl))⟩
  f24 := ⟨Tryz.f138.name, by decide, Tryz.func138.trans (congrArg some (by kernel_rfl))⟩
  f25 := ⟨Tryz.f139.name, by decide, Tryz.func139.trans (congrArg some (by kernel_rfl))⟩
  f26 := ⟨Tryz.f140.name, by decide, Tryz.func140.trans (congrArg some (by kernel_rfl))⟩
  f27 := ⟨Tryz.f141.name, by decide, Tryz.func141.trans (congrArg some (by kernel_rfl))⟩
  f28 := Tryz.func142.trans (congrArg some (by kernel_rfl))
  f29 := Tryz.func143.trans (congrArg some (by kernel_rfl))
  f46 := ⟨Tryz.f155.name, by decide, Tryz.func155.trans (congrArg some (by kernel_rfl))⟩
  f47 := Tryz.func156.trans (congrArg some (by kernel_rfl))
  f48 := Tryz.func157.trans (congrArg some (by kernel_rfl))
  f49 := ⟨Tryz.f158.name, by decide, Tryz.func158.trans (congrArg some (by kernel_rfl))⟩
  f50 := ⟨Tryz.f159.name, by decide, Tryz.func159.trans (congrArg some (by kernel_rfl))⟩
  f57 := ⟨Tryz.f164.name, by decide, Tryz.func164.trans (congrArg some (by kernel_rfl))⟩
  t0 := Tryz.underlying0
  a0 := Tryz.isAgg0
  z0 := Tryz.sizeOf0
  v0 := Tryz.zeroValue0
  t3 := Tryz.underlying3
  a3 := Tryz.isAgg3
  z3 := Tryz.sizeOf3
  v3 := Tryz.zeroValue3
  t4 := Tryz.underlying4
  a4 := Tryz.isAgg4
  z4 := Tryz.sizeOf4
  v4 := Tryz.zeroValue4
  t5 := Tryz.underlying5
  a5 := Tryz.isAgg5
  z5 := Tryz.sizeOf5
  v5 := Tryz.zeroValue5
  t9 := Tryz.underlying9
  a9 := Tryz.isAgg9
  z9 := Tryz.sizeOf9
  v9 := Tryz.zeroValue9
  t22 := Tryz.underlying110
  a22 := Tryz.isAgg110
  z22 := Tryz.sizeOf110
  v22 := Tryz.zeroValue110
  t25 := Tryz.underlying169
  a25 := Tryz.isAgg169
  z25 := Tryz.sizeOf169
  v25 := Tryz.zeroValue169
  t39 := Tryz.underlying215
  a39 := Tryz.isAgg215
  z39 := Tryz.sizeOf215
  v39 := Tryz.zeroValue215
  t45 := Tryz.underlying249
  a45 := Tryz.isAgg249
  z45 := Tryz.sizeOf249
  v45 := Tryz.zeroValue249
  t46 := Tryz.underlying250
  a46 := Tryz.isAgg250
  z46 := Tryz.sizeOf250
  v46 := Tryz.zeroValue250
  t50 := Tryz.underlying174
  a50 := Tryz.isAgg174
  z50 := Tryz.sizeOf174
  v50 := Tryz.zeroValue174
  t53 := Tryz.underlying256
  a53 := Tryz.isAgg256
  z53 := Tryz.sizeOf256
  v53 := Tryz.zeroValue256
  t55 := Tryz.underlying258
  a55 := Tryz.isAgg258
  z55 := Tryz.sizeOf258
  v55 := Tryz.zeroValue258
  t66 := Tryz.underlying268
  a66 := Tryz.isAgg268
  z66 := Tryz.sizeOf268
  v66 := Tryz.zeroValue268
  t70 := Tryz.underlying272
  a70 := Tryz.isAgg272
  z70 := Tryz.sizeOf272
  v70 := Tryz.zeroValue272
  t76 := Tryz.underlying278
  a76 := Tryz.isAgg278
  z76 := Tryz.sizeOf278
  v76 := Tryz.zeroValue278
  t77 := Tryz.underlying194
  a77 := Tryz.isAgg194
  z77 := Tryz.sizeOf194
  v77 := Tryz.zeroValue194 }
def Tryz.layRev_ren : Go.Shelf.Ren := ⟨fun | 35 => 40 | n => n, fun | 22 => 99 | 23 => 103 | 3 => 3 | 4 => 4 | 0 => 0 | n => n, fun | n => n⟩
theorem Tryz.layRev : Go.Proofs.SlLaysE0.n35 Tryz.prog Tryz.layRev_ren := {
  mixed := by kernel_rfl
  f35 := ⟨Tryz.f40.name, by decide, Tryz.func40.trans (congrArg some (by kernel_rfl))⟩
  t0 := Tryz.underlying0
  a0 := Tryz.isAgg0
  z0 := Tryz.sizeOf0
  v0 := Tryz.zeroValue0
  t3 := Tryz.underlying3
  a3 := Tryz.isAgg3
  z3 := Tryz.sizeOf3
  v3 := Tryz.zeroValue3
  t4 := Tryz.underlying4
  a4 := Tryz.isAgg4
  z4 := Tryz.sizeOf4
  v4 := Tryz.zeroValue4
  t22 := Tryz.underlying99
  a22 := Tryz.isAgg99
  z22 := Tryz.sizeOf99
  v22 := Tryz.zeroValue99 }
end Go.Proofs

