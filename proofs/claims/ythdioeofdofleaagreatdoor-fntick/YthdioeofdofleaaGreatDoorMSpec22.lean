import Derived.Test.YthdioeofdofleaaGreatDoorSpec21
import Derived.Test.YthdioeofdofleaaGreatDoorRows
import Derived.Test.YthdioeofdofleaaGreatDoorMPlain
import Derived.Shelf.Strings.BuilderK
import Derived.Shelf.Strings.Builder1
import Derived.Shelf.Strings.BuilderF
import Derived.Shelf.Strconv.Itoa0
import Derived.Shelf.Strconv.Itoa1
import Derived.Shelf.LaysM
import Derived.Shelf.Strconv.Itoa2
import Derived.Shelf.Strconv.Itoa3
import Derived.Shelf.Strconv.Itoa4
import Derived.Test.YthdioeofdofleaaGreatDoorProg
import Derived.Test.YthdioeofdofleaaGreatDoorMDr1
import Derived.Test.YthdioeofdofleaaGreatDoorMKw8
import Derived.Lib.ItoaNum
set_option maxRecDepth 100000
namespace Go.Proofs.YthdioeofdofleaaGreatDoor
open Go.RowKit

end Go.Proofs.YthdioeofdofleaaGreatDoor
namespace Go.Proofs.YthdioeofdofleaaGreatDoor
open Go.RowKit

theorem size_Builder : (Tryz.prog.info? 119).map (·.size) = some 2 := by kernel_rfl
theorem lies_Builder : liesAt Tryz.prog Tryz.prog.depth 119 (2 / Tryz.prog.cellsOf 119) 0 119 1 = true := by kernel_rfl
theorem info_Byte : (Tryz.prog.info? 5).map (fun i => (i.zero, i.size, i.bytes)) = some (some (.int .u8 0), 1, 1) := by kernel_rfl
theorem UX : (119 : TypeId) ≠ 5 := by decide
abbrev Vi (b : Nat) (bs : List Value) (w : World) : Prop := Lib.IsBuilderF 119 5 b b bs w
abbrev BldA (b : Nat) (bs : List Value) (w : World) : Prop := Lib.BuilderAtF 119 5 b b (.pointer (some ⟨b, 0, none⟩)) bs w

set_option maxHeartbeats 2000000 in
theorem qE (b : Nat) (bs : List Value) (w : World) (h : Vi b bs w) :
  Calls Tryz.prog 81 #[.pointer (some ⟨b, 0, none⟩)] w fun e w' => e = .returned (.tuple #[]) /\ BldA b bs w' /\ Below b w w' /\ Lib.OthersKept 5 (some b) w w' := by
 obtain ⟨j, hj, hjs⟩ := Option.map_eq_some_iff.1 size_Builder
 rcases h with h | h
 ·have h0 := h.cell0;have hsh := h.shape;have hfz := h.frozen0;have HB := zd h;clear h;go_enter Tryz.func81, Tryz.ntmps81;go_wp2;rw [Lib.run_to_unsafe w ⟨b, 0, none⟩ Tryz.underlying117 Tryz.underlying198 hj (by rw [hjs]; decide) hsh (Nat.zero_lt_succ 1)];simp only [Result.andThen];rw [Oper.upon_value];go_wp2;rw [run_callFunc_extern Tryz.func112 (by kernel_rfl) (by kernel_rfl) (by kernel_rfl) (e := Extern.AbiNoEscape.same) (by kernel_rfl)];rw [Lib.run_noEscape];simp only [Result.andThen];rw [Oper.upon_value];go_wp2;rw [Lib.run_from_unsafe w ⟨b, 0, none⟩ Tryz.underlying198 Tryz.underlying117 hj hsh lies_Builder];simp only [Result.andThen];rw [Oper.upon_value];go_wp2
  go_end0
  exact ⟨rfl, (za HB).used _, (Below.refl b w).setCell (p := ⟨b, 0, none⟩) (Nat.le_refl b) _, (Lib.OthersKept.refl _ _ w).setCell ⟨b, 0, none⟩ rfl _⟩
 ·have h0 := h.cell0;have HB := zd h;clear h;go_enter Tryz.func81, Tryz.ntmps81;go_wp2;rw [Lib.run_neq_ptr_same w _ Tryz.underlying117 hj];go_wp2
  go_end0
  exact ⟨rfl, za HB, Below.refl _ _, Lib.OthersKept.refl _ _ _⟩

set_option maxHeartbeats 2000000 in
theorem Vd (b : Nat) (bs : List Value) (c : Int) (w : World) (h : Vi b bs w) (hlen : bs.length <= 100000000000) (hbw : b < w.heap.size) :
  Calls Tryz.prog 42 #[.pointer (some ⟨b, 0, none⟩), .int .u8 c] w fun e w' => e = .returned .nilIface /\ BldA b (bs ++ [.int .u8 c]) w' /\ Below b w w' /\ Lib.OthersKept 5 (some b) w w' := by
 obtain ⟨i0, hi, hz0, hz1, hz2⟩ := info_parts info_Byte;have HB := zd h;clear h;go_enter Tryz.func42, Tryz.ntmps42;go_wp2_with fail;refine (qE b bs _ (za HB)).mono ?_;rintro e w1 ⟨rfl, h1, hb1, hk1⟩;obtain ⟨hB, v, hbk, hown, hne⟩ := h1
 have c0 : w1.cell? ⟨b, 0, none⟩ = some (.pointer (some ⟨b, 0, none⟩)) := by rw [Lib.cell_of_heap hbk]; rfl
 have c1 : w1.cell? ⟨b, 1, none⟩ = some v := by rw [Lib.cell_of_heap hbk]; rfl
 go_wp2_with (at_builtin; refine wpList_append_ownF _ rfl _ _ 22 rfl b 5 i0 (.int .u8 0) 1 1 Tryz.underlying22 hi hz0 hz1 hz2 rfl (by decide) _ _ _ rfl (hown.alloc _) ⟨w1.heap.size, 0, none⟩ 1 1 [.int .u8 c] rfl rfl ?c1 ?c2 ?c3 ?c4 ?c5 ?_)
 case c1 =>
  intro j u hj
  match j, hj with
  | 0, hj => simp at hj; subst hj; simp [Addr.add]
 case c2 => intro u hu; simp at hu; subst hu; rfl
 case c3 => unfold maxLen; omega
 case c4 => omega
 case c5 => have := hb1.size; simp; omega
 intro v' w2 hown' hgrow _
 have hlt : b < w1.heap.size := by have := hb1.size; omega
 have hb2 : w2.heap[b]? = some (.cells #[.pointer (some ⟨b, 0, none⟩), v] 119 (0, 0)) := by
  rw [hgrow.block b (by simp; omega) (fun e => hne e.symm), Lib.alloc_old w1 _ b hlt];exact hbk
 have d0 : w2.cell? ⟨b, 0, none⟩ = some (.pointer (some ⟨b, 0, none⟩)) := by rw [Lib.cell_of_heap hb2]; rfl
 have d1 : w2.cell? ⟨b, 1, none⟩ = some v := by rw [Lib.cell_of_heap hb2]; rfl
 have f1 : w2.frozen? ⟨b, 1, none⟩ = false := Lib.frozen_of_heap hb2 1
 obtain ⟨g, cap, rfl⟩ : ∃ g cap, v' = .slice (some ⟨g, 0, none⟩) (bs.length + 1) cap := by
  rcases hown'.2 with ⟨_, h0⟩ | ⟨g, cap, cur, fz, hv, _⟩
  ·omega
  ·exact ⟨g, cap, hv⟩
 go_wp2;go_ret;refine ⟨rfl, ?_, ?_, ((hk1.alloc _).grown hgrow (Lib.ownsRowF_kind (hown.alloc _))).setCell ⟨b, 1, none⟩ rfl _⟩
 ·exact Lib.BuilderAtF.put (T := 119) (e := 5) hB hb2 (bs' := bs ++ [.int .u8 c]) (by simpa using hown') UX
 ·exact ((hb1.alloc (by omega) _).grown hgrow (by simp; omega) (fun k hk => (hown.lt k hk).1)).setCell (p := ⟨b, 1, none⟩) hB _

set_option maxHeartbeats 2000000 in
theorem uk (b : Nat) (bs : List Value) (s : ByteArray) (w : World) (h : Vi b bs w) (hlen : bs.length + s.size <= 100000000000) (hbw : b < w.heap.size) :
  Calls Tryz.prog 40 #[.pointer (some ⟨b, 0, none⟩), .string s] w fun e w' => e = .returned (.tuple #[.int .i64 s.size, .nilIface]) /\ BldA b (bs ++ Lib.strCells s) w' /\ Below b w w' /\ Lib.OthersKept 5 (some b) w w' := by
 obtain ⟨i0, hi, hz0, hz1, hz2⟩ := info_parts info_Byte;have HB := zd h;clear h;go_enter Tryz.func40, Tryz.ntmps40;go_wp2_with fail;refine (qE b bs _ (za HB)).mono ?_;rintro e w1 ⟨rfl, h1, hb1, hk1⟩;obtain ⟨hB, v, hbk, hown, hne⟩ := h1
 have c0 : w1.cell? ⟨b, 0, none⟩ = some (.pointer (some ⟨b, 0, none⟩)) := by rw [Lib.cell_of_heap hbk]; rfl
 have c1 : w1.cell? ⟨b, 1, none⟩ = some v := by rw [Lib.cell_of_heap hbk]; rfl
 go_wp2_with (at_builtin; refine Lib.wpList_append_own_stringF _ rfl _ _ 22 9 rfl b 5 i0 Tryz.underlying22 Tryz.underlying9 hi hz0 hz1 hz2 _ _ _ rfl hown s rfl ?c3 ?c4 ?c5 ?_)
 case c3 => unfold maxLen; omega
 case c4 => omega
 case c5 => have := hb1.size; omega
 intro v' w2 hown' hgrow _
 have hlt : b < w1.heap.size := by have := hb1.size; omega
 have hb2 : w2.heap[b]? = some (.cells #[.pointer (some ⟨b, 0, none⟩), v] 119 (0, 0)) := by
  rw [hgrow.block b hlt (fun e => hne e.symm)];exact hbk
 have d0 : w2.cell? ⟨b, 0, none⟩ = some (.pointer (some ⟨b, 0, none⟩)) := by rw [Lib.cell_of_heap hb2]; rfl
 have d1 : w2.cell? ⟨b, 1, none⟩ = some v := by rw [Lib.cell_of_heap hb2]; rfl
 have f1 : w2.frozen? ⟨b, 1, none⟩ = false := Lib.frozen_of_heap hb2 1
 obtain ⟨ao, n', cap, rfl⟩ : ∃ ao n' cap, v' = .slice ao n' cap := by
  rcases hown'.2 with ⟨hv, _⟩ | ⟨g, cap, cur, fz, hv, _⟩
  ·exact ⟨_, _, _, hv⟩
  ·exact ⟨_, _, _, hv⟩
 go_wp2;go_ret2;refine ⟨rfl, ?_, ?_, (hk1.grown hgrow (Lib.ownsRowF_kind hown)).setCell ⟨b, 1, none⟩ rfl _⟩
 ·exact Lib.BuilderAtF.put (T := 119) (e := 5) hB hb2 (bs' := bs ++ Lib.strCells s) (by simpa [Lib.strCells_length] using hown') UX
 ·exact (hb1.grown hgrow (by have := hb1.size; omega) (fun k hk => (hown.lt k hk).1)).setCell (p := ⟨b, 1, none⟩) hB _
end Go.Proofs.YthdioeofdofleaaGreatDoor

namespace Go.Proofs
open Go.Shelf
def Tryz.lays169_ren : Go.Shelf.Ren := ⟨fun | 169 => 43 | n => n, fun | 70 => 117 | 9 => 9 | 0 => 0 | 72 => 119 | 37 => 22 | 127 => 172 | 3 => 3 | 5 => 5 | n => n, fun | n => n⟩
theorem Tryz.lays169 : Go.Proofs.Lays.n169 Tryz.prog Tryz.lays169_ren := {
 mixed := by kernel_rfl
 f169 := Tryz.func43.trans (congrArg some (by kernel_rfl))
 t0 := Tryz.underlying0
 a0 := Tryz.isAgg0
 z0 := Tryz.sizeOf0
 v0 := Tryz.zeroValue0
 t3 := Tryz.underlying3
 a3 := Tryz.isAgg3
 z3 := Tryz.sizeOf3
 v3 := Tryz.zeroValue3
 t9 := Tryz.underlying9
 a9 := Tryz.isAgg9
 z9 := Tryz.sizeOf9
 v9 := Tryz.zeroValue9
 t37 := Tryz.underlying22
 a37 := Tryz.isAgg22
 z37 := Tryz.sizeOf22
 v37 := Tryz.zeroValue22
 t70 := Tryz.underlying117
 a70 := Tryz.isAgg117
 z70 := Tryz.sizeOf117
 v70 := Tryz.zeroValue117
 t72 := Tryz.underlying119
 a72 := Tryz.isAgg119
 z72 := Tryz.sizeOf119
 v72 := Tryz.zeroValue119
 t127 := Tryz.underlying172
 a127 := Tryz.isAgg172
 z127 := Tryz.sizeOf172
 v127 := Tryz.zeroValue172 }
theorem Tryz.Builder_Extra_169 : Builder.Extra Tryz.prog Tryz.lays169_ren := {
 sizeBuilder := by kernel_rfl
 liesBuilder := by kernel_rfl
 t5 := Tryz.underlying5
 a5 := Tryz.isAgg5
 z5 := Tryz.sizeOf5
 v5 := Tryz.zeroValue5
 infoByte := by kernel_rfl
 cellsByte := by kernel_rfl
 sizeByte := by kernel_rfl
 neB5 := by decide }
open Go.RowKit in
theorem Tryz.Builder_String_any_k (B b : Nat) (l : List UInt8) (w : World) (h : Lib.IsBuilderF 119 5 B b (Lib.byteCells l) w) (hBw : B <= w.heap.size) :
  Calls Tryz.prog 43 #[.pointer (some ⟨b, 0, none⟩)] w fun e w' => e = .returned (.string ⟨l.toArray⟩) /\ (Lib.IsBuilderF 119 5 B b (Lib.byteCells l) w' /\ Below B w w' /\ Lib.OthersKept 5 (some b) w w') := Any.Builder_String_any_k Tryz.lays169 Tryz.Builder_Extra_169 B b l w h hBw
def Tryz.laysM171_ren : Go.Shelf.Ren := ⟨fun | 171 => 82 | 243 => 113 | 246 => 135 | 283 => 143 | 284 => 144 | 285 => 145 | 286 => 146 | 129 => 149 | 317 => 148 | 318 => 150 | 319 => 151 | 320 => 152 | 337 => 154 | 338 => 155 | n => n, fun | 3 => 3 | 9 => 9 | 2 => 2 | 4 => 4 | 171 => 266 | 0 => 0 | 53 => 52 | 37 => 22 | 5 => 5 | 173 => 269 | 212 => 272 | 51 => 273 | 20 => 20 | 213 => 274 | 46 => 177 | 232 => 278 | 233 => 279 | n => n, fun | 17 => 1 | 18 => 2 | 19 => 3 | n => n⟩
theorem Tryz.laysM171 : Go.Proofs.LaysM.n171 Tryz.prog Tryz.laysM171_ren := {
 mixed := by kernel_rfl
 f129 := Tryz.func149.trans (congrArg some (by kernel_rfl))
 f171 := Tryz.func82.trans (congrArg some (by kernel_rfl))
 f243 := Tryz.func113.trans (congrArg some (by kernel_rfl))
 f246 := Tryz.func135.trans (congrArg some (by kernel_rfl))
 f283 := Tryz.func143.trans (congrArg some (by kernel_rfl))
 f284 := Tryz.func144.trans (congrArg some (by kernel_rfl))
 f285 := Tryz.func145.trans (congrArg some (by kernel_rfl))
 f286 := Tryz.func146.trans (congrArg some (by kernel_rfl))
 f317 := Tryz.func148.trans (congrArg some (by kernel_rfl))
 f318 := Tryz.func150.trans (congrArg some (by kernel_rfl))
 f319 := Tryz.func151.trans (congrArg some (by kernel_rfl))
 f320 := Tryz.func152.trans (congrArg some (by kernel_rfl))
 f337 := Tryz.func154.trans (congrArg some (by kernel_rfl))
 f338 := Tryz.func155.trans (congrArg some (by kernel_rfl))
 t0 := Tryz.underlying0
 a0 := Tryz.isAgg0
 z0 := Tryz.sizeOf0
 v0 := Tryz.zeroValue0
 t2 := Tryz.underlying2
 a2 := Tryz.isAgg2
 z2 := Tryz.sizeOf2
 v2 := Tryz.zeroValue2
 t3 := Tryz.underlying3
 a3 := Tryz.isAgg3
 z3 := Tryz.sizeOf3
 v3 := Tryz.zeroValue3
 t4 := Tryz.underlying4
 a4 := Tryz.isAgg4
 z4 := Tryz.sizeOf4
 v4 := Tryz.zeroValue4
 t5 := Tryz.underlying5
 a5 := Tryz.isAgg5
 z5 := Tryz.sizeOf5
 v5 := Tryz.zeroValue5
 t9 := Tryz.underlying9
 a9 := Tryz.isAgg9
 z9 := Tryz.sizeOf9
 v9 := Tryz.zeroValue9
 t20 := Tryz.underlying20
 a20 := Tryz.isAgg20
 z20 := Tryz.sizeOf20
 v20 := Tryz.zeroValue20
 t37 := Tryz.underlying22
 a37 := Tryz.isAgg22
 z37 := Tryz.sizeOf22
 v37 := Tryz.zeroValue22
 t46 := Tryz.underlying177
 a46 := Tryz.isAgg177
 z46 := Tryz.sizeOf177
 v46 := Tryz.zeroValue177
 t51 := Tryz.underlying273
 a51 := Tryz.isAgg273
 z51 := Tryz.sizeOf273
 v51 := Tryz.zeroValue273
 t53 := Tryz.underlying52
 a53 := Tryz.isAgg52
 z53 := Tryz.sizeOf52
 v53 := Tryz.zeroValue52
 t171 := Tryz.underlying266
 a171 := Tryz.isAgg266
 z171 := Tryz.sizeOf266
 v171 := Tryz.zeroValue266
 t173 := Tryz.underlying269
 a173 := Tryz.isAgg269
 z173 := Tryz.sizeOf269
 v173 := Tryz.zeroValue269
 t212 := Tryz.underlying272
 a212 := Tryz.isAgg272
 z212 := Tryz.sizeOf272
 v212 := Tryz.zeroValue272
 t213 := Tryz.underlying274
 a213 := Tryz.isAgg274
 z213 := Tryz.sizeOf274
 t232 := Tryz.underlying278
 a232 := Tryz.isAgg278
 z232 := Tryz.sizeOf278
 v232 := Tryz.zeroValue278
 t233 := Tryz.underlying279
 a233 := Tryz.isAgg279
 z233 := Tryz.sizeOf279
 v233 := Tryz.zeroValue279
 g17 := by kernel_rfl
 g18 := by kernel_rfl
 g19 := by kernel_rfl
 i0 := by kernel_rfl
 i2 := by kernel_rfl
 i3 := by kernel_rfl
 i4 := by kernel_rfl
 i5 := by kernel_rfl
 i9 := by kernel_rfl
 i20 := by kernel_rfl
 i37 := by kernel_rfl
 i46 := by kernel_rfl
 i51 := by kernel_rfl
 i53 := by kernel_rfl
 i171 := by kernel_rfl
 i173 := by kernel_rfl
 i212 := by kernel_rfl
 i232 := by kernel_rfl
 i233 := by kernel_rfl
 m17 := by kernel_rfl
 m18 := by kernel_rfl
 m19 := by kernel_rfl }
end Go.Proofs

namespace Go.Proofs.YthdioeofdofleaaGreatDoor
open Go.RowKit

theorem Yn (a b c : ByteArray) : a ++ b ++ c = a ++ (b ++ c) := ByteArray.append_assoc
theorem ba_nil (a : ByteArray) : (⟨#[]⟩ : ByteArray) ++ a = a := by
 apply ByteArray.ext
 simp
theorem vE (a : ByteArray) : a ++ (⟨#[]⟩ : ByteArray) = a := by
 apply ByteArray.ext
 simp
theorem VK (a b : ByteArray) : Lib.strCells (a ++ b) = Lib.strCells a ++ Lib.strCells b := by
 unfold Lib.strCells;rw [ByteArray.data_append, Array.toList_append, List.map_append]
theorem strCells_one {c : Int} (h0 : 0 <= c) (h1 : c <= 255) : Lib.strCells (strOfNums [c]) = [.int .u8 c] := by
 obtain ⟨k, rfl⟩ := Int.eq_ofNat_of_zero_le h0
 have hk : k < 256 := by omega
 simp [Lib.strCells, strOfNums]
 omega
theorem qC : Lib.decDigits 0 = [48] := by rw [Lib.decDigits]; rfl
theorem decDigits_lo {k : Nat} (h : k < 10) : Lib.decDigits k = [UInt8.ofNat (48 + k)] := by rw [Lib.decDigits, dif_pos h]
theorem decDigits_hi {k : Nat} (h : ¬ k < 10) : Lib.decDigits k = Lib.decDigits (k / 10) ++ [UInt8.ofNat (48 + k % 10)] := by rw [Lib.decDigits, dif_neg h]
theorem decDigits_len : ∀ (k n : Nat), n < 10 ^ (k + 1) -> (Lib.decDigits n).length <= k + 1 := by
 intro k
 induction k with
 | zero =>
  intro n h;rw [Lib.decDigits, dif_pos (by omega)]
  simp
 | succ k ih =>
  intro n h;rw [Lib.decDigits]
  split
  ·simp
  ·rw [List.length_append, List.length_singleton];have := ih (n / 10) (by rw [Nat.pow_succ] at h; omega);omega
theorem decGo_digits : ∀ (k : Nat) (out : ByteArray), 0 < k -> Yy k k out = ⟨(Lib.decDigits k).toArray⟩ ++ out := by
 intro k
 induction k using Nat.strongRecOn with
 | ind k ih =>
  intro out h;rw [decGo_pos h]
  have hone : strOfNums [48 + (k : Int) % 10] = ⟨#[UInt8.ofNat (48 + k % 10)]⟩ := by
   show (⟨#[UInt8.ofNat (48 + (k : Int) % 10).toNat]⟩ : ByteArray) = _
   rw [show (48 + (k : Int) % 10).toNat = 48 + k % 10 by omega]
  by_cases hk : k < 10
  ·rw [show k / 10 = 0 by omega, qB, decDigits_lo hk, hone, show 48 + k % 10 = 48 + k by omega]
  ·rw [ih (k / 10) (by omega) _ (by omega), decDigits_hi hk, hone, ← Yn]
   congr 1
theorem Uk (n : Nat) : xe n = ⟨(Lib.decDigits n).toArray⟩ := by
 unfold xe
 split
 ·rename_i h;subst h;rw [qC]
 ·rw [decGo_digits n _ (by omega)];exact vE _
theorem itoa_decS (n : Nat) : (⟨(Lib.itoa (n : Int)).toArray⟩ : ByteArray) = xe n := by
 rw [Uk];unfold Lib.itoa;rw [if_neg (by omega), Int.toNat_natCast]
theorem YO {n : Nat} (h : n <= 10000000) : (xe n).size <= 8 := by
 rw [Uk];have := decDigits_len 7 n (by omega)
 simpa [ByteArray.size] using this
def vy (k : Nat) (x : Pt) : ByteArray := (((⟨#[32]⟩ ++ strOfNums [65 + (k : Int)]) ++ xe x.fr.toNat) ++ ⟨#[45]⟩) ++ xe x.to.toNat
theorem shPart_size {k : Nat} {x : Pt} (h1 : x.fr <= 10000000) (h2 : x.to <= 10000000) : (vy k x).size <= 19 := by
 have a := YO (n := x.fr.toNat) (by omega);have b := YO (n := x.to.toNat) (by omega);unfold vy;simp only [ByteArray.size_append];have h3 : (⟨#[32]⟩ : ByteArray).size = 1 := rfl;have h4 : (⟨#[45]⟩ : ByteArray).size = 1 := rfl;rw [Yr, h3, h4];omega
def YI (p : Int) (k : Nat) : List Pt -> ByteArray
 | [] => ⟨#[]⟩
 | x :: r => (if x.piece = p then vy k x else ⟨#[]⟩) ++ YI p k r
theorem onGo_snoc (p : Int) (k : Nat) (xs : List Pt) (x : Pt) : YI p k (xs ++ [x]) = YI p k xs ++ (if x.piece = p then vy k x else ⟨#[]⟩) := by
 induction xs with
 | nil => simp only [List.nil_append, YI]; rw [vE, ba_nil]
 | cons y r ih => simp only [List.cons_append, YI]; rw [ih, Yn]
theorem onGo_none {p : Int} {k : Nat} {xs : List Pt} (h : (xs.any fun x => decide (x.piece = p)) = false) : YI p k xs = ⟨#[]⟩ := by
 induction xs with
 | nil => rfl
 | cons y r ih =>
  simp only [List.any_cons, Bool.or_eq_false_iff, decide_eq_false_iff_not] at h;simp only [YI];rw [if_neg h.1, ih h.2];rfl
def xg (n : Nt) (ts : List Tr) (p : Int) : List Nat -> ByteArray
 | [] => ⟨#[]⟩
 | i :: r => YI p i (zi n (ts.getD i noTr')) ++ xg n ts p r
theorem trGo_snoc (n : Nt) (ts : List Tr) (p : Int) (is : List Nat) (i : Nat) : xg n ts p (is ++ [i]) = xg n ts p is ++ YI p i (zi n (ts.getD i noTr')) := by
 induction is with
 | nil => simp only [List.nil_append, xg]; rw [vE, ba_nil]
 | cons y r ih => simp only [List.cons_append, xg]; rw [ih, Yn]
theorem trGo_filter (n : Nt) (ts : List Tr) (p : Int) (is : List Nat) : xg n ts p (is.filter fun i => (zi n (ts.getD i noTr')).any fun x => decide (x.piece = p)) = xg n ts p is := by
 induction is with
 | nil => rfl
 | cons y r ih =>
  rw [List.filter_cons]
  split
  ·simp only [xg]; rw [ih]
  ·rename_i h;simp only [xg];rw [ih, onGo_none (by simpa using h), ba_nil]
def lnGo (n : Nt) (ts : List Tr) (i : Nat) : ByteArray := ((n.pieces.getD i ⟨⟨#[]⟩, 0, 0, 0⟩).name ++ xg n ts i (List.range ts.length)) ++ ⟨#[10]⟩
def uy (n : Nt) (ts : List Tr) : Nat -> ByteArray
 | 0 => ⟨#[]⟩
 | i + 1 => uy n ts i ++ lnGo n ts i
def shown (n : Nt) (ts : List Tr) : ByteArray := uy n ts n.pieces.length
def Vf (n : Nt) (ts : List Tr) (s : ByteArray) : Prop := (ye n ts /\ s = shown n ts) \/ (¬ ye n ts /\ s = ⟨#[]⟩)
theorem Vf.unique {n : Nt} {ts : List Tr} {a b : ByteArray} (h : Vf n ts a) (g : Vf n ts b) : a = b := by
 rcases h with ⟨h1, rfl⟩ | ⟨h1, rfl⟩ <;> rcases g with ⟨g1, rfl⟩ | ⟨g1, rfl⟩
 ·rfl
 ·exact absurd h1 g1
 ·exact absurd g1 h1
 ·rfl
theorem uG (p : Int) (k : Nat) (xs : List Pt) (h : ∀ x ∈ xs, x.fr <= 10000000 /\ x.to <= 10000000) : (YI p k xs).size <= 19 * xs.length := by
 induction xs with
 | nil => simp [YI, ByteArray.size]
 | cons y r ih =>
  simp only [YI, ByteArray.size_append, List.length_cons]
  have h1 := ih fun x hx => h x (List.mem_cons_of_mem _ hx)
  have h2 := shPart_size (k := k) (h y (List.mem_cons_self ..)).1 (h y (List.mem_cons_self ..)).2;have h3 : (⟨#[]⟩ : ByteArray).size = 0 := rfl
  split
  ·omega
  ·rw [h3]; omega
end Go.Proofs.YthdioeofdofleaaGreatDoor

