import Derived.Test.YthdioeofdofleaaGreatDoorMKw8
import Derived.LaidEql
import Derived.Stop.Asserts
import Derived.RowKitTokens
import Derived.Test.YthdioeofdofleaaGreatDoorKt34
import Derived.Test.YthdioeofdofleaaGreatDoorMKt12
set_option maxRecDepth 100000
namespace Go.Proofs.YthdioeofdofleaaGreatDoor
open Go.RowKit Go.Extern.Stop Go.Stop Go.Extern
variable {w : World} {zs : List Int} {n : Nt} {long F : Int}
theorem as_nil (t : Value) (w : World) :
  Calls Tryz.prog 61 #[.nilIface, t] w fun e w' => e = .returned (.bool false) /\ w' = w := by
 go_enter Tryz.func61, Tryz.ntmps61;go_wp2;go_ret;exact ⟨rfl, rfl⟩

theorem ea_valueOfP (t : Addr) (w : World) : (ReflectliteValue.unpack (.iface 145 (.pointer (some t)))).run Tryz.prog w
  = .ok (.agg #[.pointer (some ⟨4, 145, none⟩), .pointer (some ⟨w.heap.size, 0, none⟩), .int .u64 150]) (w.alloc (.cells #[.pointer (some t)] 145)) := by kernel_rfl
theorem ea_typeP (a : Addr) (w : World) : (ReflectliteValue.methodAny (ReflectliteValue.valueError "reflectlite.Value.Type" 0) (fun t _ _ _ => ReflectliteType.toType t) #[.agg #[.pointer (some ⟨4, 145, none⟩), .pointer (some a), .int .u64 150]]).run Tryz.prog w
  = .ok (.iface 245 (.agg #[.pointer (some ⟨4, 145, none⟩)])) w := by kernel_rfl
theorem ea_methodKind (h : Value) (w : World) : (Go.method 406 245 (.agg #[h]) "Kind").run Tryz.prog w = .ok (170, h) w := by kernel_rfl
theorem ea_kindP (w : World) : ((ReflectliteType.abiMethod fun t => (fun a : Nat => Value.int IntKind.u8 (a : Int)) <$> Rtype.kind t) #[.pointer (some ⟨4, 145, none⟩)]).run Tryz.prog w = .ok (.int .u8 22) w := by kernel_rfl
theorem ea_kindS (w : World) : ((ReflectliteType.abiMethod fun t => (fun a : Nat => Value.int IntKind.u8 (a : Int)) <$> Rtype.kind t) #[.pointer (some ⟨4, 97, none⟩)]).run Tryz.prog w = .ok (.int .u8 25) w := by kernel_rfl

theorem ea_rlm (z : Sem Value) (f : TypeId -> Addr -> Nat -> Nat -> Sem Value) (v : Value) :
  ReflectliteValue.method z f #[v] = (do match ← ReflectliteValue.parts v with | none => z | some (t, a, fl) => f t a fl (fl % 32)) := rfl
theorem ea_partsP (a : Addr) (w : World) : (ReflectliteValue.parts (.agg #[.pointer (some ⟨4, 145, none⟩), .pointer (some a), .int .u64 150])).run Tryz.prog w = .ok (some (145, a, 150)) w := by kernel_rfl
theorem ea_isNilP (a p : Addr) (W : World) (ha : W.cell? a = some (.pointer (some p))) :
  (ReflectliteValue.method (ReflectliteValue.valueError "reflectlite.Value.IsNil" 0) ReflectliteValue.isNil #[.agg #[.pointer (some ⟨4, 145, none⟩), .pointer (some a), .int .u64 150]]).run Tryz.prog W = .ok (.bool false) W := by
 rw [ea_rlm];simp only [Sem.run_bind, ea_partsP, Result.andThen]
 simp [ReflectliteValue.isNil, loadVar, isAgg, underlying, Tryz.underlying145, ha, Result.andThen]

theorem ea_methodElem (h : Value) (w : World) : (Go.method 406 245 (.agg #[h]) "Elem").run Tryz.prog w = .ok (186, .agg #[h]) w := by kernel_rfl
theorem Vg (h : Value) (w : World) : (Go.method 406 245 (.agg #[h]) "Implements").run Tryz.prog w = .ok (187, .agg #[h]) w := by kernel_rfl
theorem vh (h : Value) (w : World) : (Go.method 406 245 (.agg #[h]) "AssignableTo").run Tryz.prog w = .ok (184, .agg #[h]) w := by kernel_rfl
theorem ea_elemP (w : World) : (ReflectliteType.method ReflectliteType.elem #[.agg #[.pointer (some ⟨4, 145, none⟩)]]).run Tryz.prog w = .ok (.iface 245 (.agg #[.pointer (some ⟨4, 97, none⟩)])) w := by kernel_rfl
theorem qy (w : World) : (ReflectliteType.relation "Implements" ReflectliteType.implements_ #[.agg #[.pointer (some ⟨4, 97, none⟩)], .iface 245 (.agg #[.pointer (some ⟨4, 82, none⟩)])]).run Tryz.prog w = .ok (.bool true) w := by kernel_rfl
theorem ea_typeOfS (v : Value) (w : World) : (ReflectliteType.typeOf #[.iface 97 v]).run Tryz.prog w = .ok (.iface 245 (.agg #[.pointer (some ⟨4, 97, none⟩)])) w := by kernel_rfl
theorem qA (w : World) : (ReflectliteType.relation "AssignableTo" ReflectliteType.assignableTo #[.agg #[.pointer (some ⟨4, 97, none⟩)], .iface 245 (.agg #[.pointer (some ⟨4, 97, none⟩)])]).run Tryz.prog w = .ok (.bool true) w := by kernel_rfl
theorem ea_valueOfS (c j : Int) (w : World) : (ReflectliteValue.unpack (.iface 97 (.agg #[.int .i64 c, .int .i64 j]))).run Tryz.prog w
  = .ok (.agg #[.pointer (some ⟨4, 97, none⟩), .pointer (some ⟨w.heap.size, 0, none⟩), .int .u64 153]) (w.alloc (.cells #[.int .i64 c, .int .i64 j] 97)) := by kernel_rfl

theorem ea_elemOfP (w : World) : (Rtype.elem? 145).run Tryz.prog w = .ok (some 97) w := by kernel_rfl
theorem ea_mkS (p : Addr) (w : World) : (ReflectliteValue.mk 97 p ReflectliteValue.flagAddr).run Tryz.prog w = .ok (.agg #[.pointer (some ⟨4, 97, none⟩), .pointer (some p), .int .u64 409]) w := by kernel_rfl
theorem ea_elemVP (a p : Addr) (W : World) (ha : W.cell? a = some (.pointer (some p))) :
  (ReflectliteValue.method (ReflectliteValue.valueError "reflectlite.Value.Elem" 0) ReflectliteValue.elem #[.agg #[.pointer (some ⟨4, 145, none⟩), .pointer (some a), .int .u64 150]]).run Tryz.prog W
   = .ok (.agg #[.pointer (some ⟨4, 97, none⟩), .pointer (some p), .int .u64 409]) W := by
 rw [ea_rlm];simp only [Sem.run_bind, ea_partsP, Result.andThen]
 simp [ReflectliteValue.elem, loadVar, isAgg, underlying, Tryz.underlying145, ha, Result.andThen, ea_elemOfP, ea_mkS]
theorem ea_rls (v x : Value) : ∃ s1 s2 s3 s4 s5 : String, ReflectliteValue.set #[v, x] = (do
  let (some (dst, a, fl), some (src, b, _)) := (← ReflectliteValue.parts v, ← ReflectliteValue.parts x)
   | unsupported (.noEntry s1)
  if fl / ReflectliteValue.flagAddr % 2 == 0 then unsupported (.noEntry s2)
  let val ← loadVar src b
  if ← Rtype.directlyAssignable dst src then storeVar dst a val
  else if ← Rtype.implements dst src then
   if (← Rtype.kind src) == 20 then
    match val with
    | .nilIface => unsupported (.noEntry s3)
    | _ => storeVar dst a val
   else storeVar dst a (.iface src val)
  else panicString (s4 ++ (← Rtype.spelt src) ++ s5 ++ (← Rtype.spelt dst))
  pure (.tuple #[])) := ⟨_, _, _, _, _, rfl⟩
theorem ea_partsSa (a : Addr) (w : World) : (ReflectliteValue.parts (.agg #[.pointer (some ⟨4, 97, none⟩), .pointer (some a), .int .u64 409])).run Tryz.prog w = .ok (some (97, a, 409)) w := by kernel_rfl
theorem ea_partsS (a : Addr) (w : World) : (ReflectliteValue.parts (.agg #[.pointer (some ⟨4, 97, none⟩), .pointer (some a), .int .u64 153])).run Tryz.prog w = .ok (some (97, a, 153)) w := by kernel_rfl
theorem ea_directS (w : World) : (Rtype.directlyAssignable 97 97).run Tryz.prog w = .ok true w := by kernel_rfl
theorem load_halt (W : World) (X : Nat) (u v : Value) (h0 : W.cell? ⟨X, 0, none⟩ = some u) (h1 : W.cell? ⟨X, 1, none⟩ = some v) : (loadVar 97 ⟨X, 0, none⟩).run Tryz.prog W = .ok (.agg #[u, v]) W := by
 simp [loadVar, isAgg, underlying, Tryz.underlying97, loadCells, loadCellsFrom, h0, h1, Addr.add, Result.andThen]
theorem ea_setS (T b : Nat) (c j : Int) (o0 o1 : Value) (W : World) (hb0 : W.cell? ⟨b, 0, none⟩ = some (.int .i64 c)) (hb1 : W.cell? ⟨b, 1, none⟩ = some (.int .i64 j)) (ht0 : W.cell? ⟨T, 0, none⟩ = some o0) (ht1 : W.cell? ⟨T, 1, none⟩ = some o1) (hf0 : W.frozen? ⟨T, 0, none⟩ = false) (hf1 : W.frozen? ⟨T, 1, none⟩ = false) :
  (ReflectliteValue.set #[.agg #[.pointer (some ⟨4, 97, none⟩), .pointer (some ⟨T, 0, none⟩), .int .u64 409], .agg #[.pointer (some ⟨4, 97, none⟩), .pointer (some ⟨b, 0, none⟩), .int .u64 153]]).run Tryz.prog W
   = .ok (.tuple #[]) ((W.setCell ⟨T, 0, none⟩ (.int .i64 c)).setCell ⟨T, 1, none⟩ (.int .i64 j)) := by
 obtain ⟨s1, s2, s3, s4, s5, hs⟩ := ea_rls (.agg #[.pointer (some ⟨4, 97, none⟩), .pointer (some ⟨T, 0, none⟩), .int .u64 409]) (.agg #[.pointer (some ⟨4, 97, none⟩), .pointer (some ⟨b, 0, none⟩), .int .u64 153]);rw [hs];simp only [Sem.run_bind, ea_partsSa, ea_partsS, Result.andThen]
 simp [ReflectliteValue.flagAddr, load_halt W b _ _ hb0 hb1, Result.andThen, ea_directS, storeVar, Value.cells, storeCells, Addr.add]
 rw [run_store Tryz.prog W _ _ _ (by rfl)]
 simp [ht0, hf0]
 rw [run_store Tryz.prog _ _ _ _ (by rfl)]
 have h1' : (W.setCell ⟨T, 0, none⟩ (.int .i64 c)).cell? ⟨T, 1, none⟩ = some o1 := by rw [World.cell?_setCell_other _ _ _ _ (by simp)]; exact ht1
 simp [h1', hf1]

set_option maxHeartbeats 4000000 in
theorem as_hit (T : Nat) (c j : Int) (o0 o1 : Value) (w : World) (hg : w.cell? ⟨0, 0, none⟩ = some (.iface 245 (.agg #[.pointer (some ⟨4, 82, none⟩)]))) (ht0 : w.cell? ⟨T, 0, none⟩ = some o0) (ht1 : w.cell? ⟨T, 1, none⟩ = some o1) (hf0 : w.frozen? ⟨T, 0, none⟩ = false) (hf1 : w.frozen? ⟨T, 1, none⟩ = false) :
  Calls Tryz.prog 61 #[.iface 97 (.agg #[.int .i64 c, .int .i64 j]), .iface 145 (.pointer (some ⟨T, 0, none⟩))] w fun ev w' => ev = .returned (.bool true) /\ w' = ((((((w.alloc (.cells #[.pointer (some ⟨T, 0, none⟩)] 145)).alloc (.cells #[.pointer (some ⟨4, 145, none⟩), .pointer (some ⟨w.heap.size, 0, none⟩), .int .u64 150] 201)).alloc (.cells #[.pointer (some ⟨4, 145, none⟩), .pointer (some ⟨w.heap.size, 0, none⟩), .int .u64 150] 201)).alloc (.cells #[.int .i64 c, .int .i64 j] 97)).setCell ⟨T, 0, none⟩ (.int .i64 c)).setCell ⟨T, 1, none⟩ (.int .i64 j)) := by
 have h6 := @run_callFunc_extern Tryz.prog 99 _ (fun args => ReflectliteValue.unpack (args.getD 0 (.tuple #[]))) Tryz.func99 (by kernel_rfl) (by kernel_rfl) (by kernel_rfl) (by kernel_rfl);have h7 := @run_callFunc_extern Tryz.prog 100 _ (ReflectliteValue.methodAny (ReflectliteValue.valueError "reflectlite.Value.Type" 0) (fun t _ _ _ => ReflectliteType.toType t)) Tryz.func100 (by kernel_rfl) (by kernel_rfl) (by kernel_rfl) (by kernel_rfl);have h8 := @run_callFunc_extern Tryz.prog 101 _ (ReflectliteValue.method (ReflectliteValue.valueError "reflectlite.Value.IsNil" 0) ReflectliteValue.isNil) Tryz.func101 (by kernel_rfl) (by kernel_rfl) (by kernel_rfl) (by kernel_rfl);have h27 := @run_callFunc_extern Tryz.prog 170 _ (ReflectliteType.abiMethod fun t => do pure (.int .u8 (← Rtype.kind t))) Tryz.func170 (by kernel_rfl) (by kernel_rfl) (by kernel_rfl) (by kernel_rfl);have h37 := @run_callFunc_extern Tryz.prog 186 _ (ReflectliteType.method ReflectliteType.elem) Tryz.func186 (by kernel_rfl) (by kernel_rfl) (by kernel_rfl) (by kernel_rfl);have h38 := @run_callFunc_extern Tryz.prog 187 _ (ReflectliteType.relation "Implements" ReflectliteType.implements_) Tryz.func187 (by kernel_rfl) (by kernel_rfl) (by kernel_rfl) (by kernel_rfl);have h10 := @run_callFunc_extern Tryz.prog 130 _ ReflectliteType.typeOf Tryz.func130 (by kernel_rfl) (by kernel_rfl) (by kernel_rfl) (by kernel_rfl);have h35 := @run_callFunc_extern Tryz.prog 184 _ (ReflectliteType.relation "AssignableTo" ReflectliteType.assignableTo) Tryz.func184 (by kernel_rfl) (by kernel_rfl) (by kernel_rfl) (by kernel_rfl);have h11 := @run_callFunc_extern Tryz.prog 131 _ (ReflectliteValue.method (ReflectliteValue.valueError "reflectlite.Value.Elem" 0) ReflectliteValue.elem) Tryz.func131 (by kernel_rfl) (by kernel_rfl) (by kernel_rfl) (by kernel_rfl);have h12 := @run_callFunc_extern Tryz.prog 132 _ ReflectliteValue.set Tryz.func132 (by kernel_rfl) (by kernel_rfl) (by kernel_rfl) (by kernel_rfl);have tO := ea_typeOfS;have mA := vh;have a25 := qA;have v25 := ea_valueOfS;have f6 := ea_valueOfP;have f7 := ea_typeP;have mK := ea_methodKind;have mE := ea_methodElem;have mI := Vg;have k27 := ea_kindP;have k25 := ea_kindS;have e27 := ea_elemP;have i25 := qy;have n8 := ea_isNilP ⟨w.heap.size, 0, none⟩ ⟨T, 0, none⟩ ((w.alloc (.cells #[.pointer (some ⟨T, 0, none⟩)] 145)).alloc (.cells #[.pointer (some ⟨4, 145, none⟩), .pointer (some ⟨w.heap.size, 0, none⟩), .int .u64 150] 201)) (by simp)
 have hlt : 0 < w.heap.size := by
  rcases Nat.eq_zero_or_pos w.heap.size with h0 | h
  ·simp [World.cell?, h0] at hg
  ·exact h
 have hg2 : ((w.alloc (.cells #[.pointer (some ⟨T, 0, none⟩)] 145)).alloc (.cells #[.pointer (some ⟨4, 145, none⟩), .pointer (some ⟨w.heap.size, 0, none⟩), .int .u64 150] 201)).cell? ⟨0, 0, none⟩ = some (.iface 245 (.agg #[.pointer (some ⟨4, 82, none⟩)])) := by
  rw [World.cell?_alloc_lt _ _ ⟨0, 0, none⟩ (by simp), World.cell?_alloc_lt _ _ ⟨0, 0, none⟩ hlt]; exact hg
 have htl : T < w.heap.size := by
  rcases Nat.lt_or_ge T w.heap.size with h | h
  ·exact h
  ·simp [World.cell?, Array.getElem?_eq_none h] at ht0
 have el := ea_elemVP ⟨w.heap.size, 0, none⟩ ⟨T, 0, none⟩ (((w.alloc (.cells #[.pointer (some ⟨T, 0, none⟩)] 145)).alloc (.cells #[.pointer (some ⟨4, 145, none⟩), .pointer (some ⟨w.heap.size, 0, none⟩), .int .u64 150] 201)).alloc (.cells #[.pointer (some ⟨4, 145, none⟩), .pointer (some ⟨w.heap.size, 0, none⟩), .int .u64 150] 201)) (by rw [World.cell?_alloc_lt _ _ ⟨w.heap.size, 0, none⟩ (by simp; omega)]; simp)
 have st := ea_setS T (w.heap.size + 1 + 1 + 1) c j o0 o1 ((((w.alloc (.cells #[.pointer (some ⟨T, 0, none⟩)] 145)).alloc (.cells #[.pointer (some ⟨4, 145, none⟩), .pointer (some ⟨w.heap.size, 0, none⟩), .int .u64 150] 201)).alloc (.cells #[.pointer (some ⟨4, 145, none⟩), .pointer (some ⟨w.heap.size, 0, none⟩), .int .u64 150] 201)).alloc (.cells #[.int .i64 c, .int .i64 j] 97))
  (by rw [World.cell?_alloc_at _ _ _ _ (by simp)]; rfl) (by rw [World.cell?_alloc_at _ _ _ _ (by simp)]; rfl)
  (by rw [World.cell?_alloc_lt _ _ ⟨T, 0, none⟩ (by simp; omega), World.cell?_alloc_lt _ _ ⟨T, 0, none⟩ (by simp; omega), World.cell?_alloc_lt _ _ ⟨T, 0, none⟩ (by simp; omega), World.cell?_alloc_lt _ _ ⟨T, 0, none⟩ htl]; exact ht0)
  (by rw [World.cell?_alloc_lt _ _ ⟨T, 1, none⟩ (by simp; omega), World.cell?_alloc_lt _ _ ⟨T, 1, none⟩ (by simp; omega), World.cell?_alloc_lt _ _ ⟨T, 1, none⟩ (by simp; omega), World.cell?_alloc_lt _ _ ⟨T, 1, none⟩ htl]; exact ht1)
  (by rw [World.frozen?_alloc_old _ _ ⟨T, 0, none⟩ (by simp; omega), World.frozen?_alloc_old _ _ ⟨T, 0, none⟩ (by simp; omega), World.frozen?_alloc_old _ _ ⟨T, 0, none⟩ (by simp; omega), World.frozen?_alloc_old _ _ ⟨T, 0, none⟩ (Nat.ne_of_lt htl)]; exact hf0)
  (by rw [World.frozen?_alloc_old _ _ ⟨T, 1, none⟩ (by simp; omega), World.frozen?_alloc_old _ _ ⟨T, 1, none⟩ (by simp; omega), World.frozen?_alloc_old _ _ ⟨T, 1, none⟩ (by simp; omega), World.frozen?_alloc_old _ _ ⟨T, 1, none⟩ (Nat.ne_of_lt htl)]; exact hf1)
 go_enter Tryz.func61, Tryz.ntmps61;go_wp2;refine wp_loop_rounds 1 ?_;rw [rounds_succ];go_wp2;go_ret;exact ⟨rfl, rfl⟩

theorem below_ea {W : World} {T : Nat} (hT : w.heap.size <= T) (hTW : w.heap.size <= W.heap.size) (hb : Below w.heap.size w W) (o1 o2 o3 o4 : Obj) (u v : Value) : Below w.heap.size w (((((((W.alloc o1).alloc o2).alloc o3).alloc o4).setCell ⟨T, 0, none⟩ u).setCell ⟨T, 1, none⟩ v)) :=
 ((((((hb.alloc hTW o1).alloc (by simp; omega) o2).alloc (by simp; omega) o3).alloc (by simp; omega) o4).setCell (p := ⟨T, 0, none⟩) hT u).setCell (p := ⟨T, 1, none⟩) hT v)

set_option maxHeartbeats 4000000 in
theorem haltOf_nil (w : World) : Calls Tryz.prog 25 #[.nilIface] w fun e w' => e = .returned (.agg #[.int .i64 0, .int .i64 (-1)]) /\ Below w.heap.size w w' := by
 go_enter Tryz.func25, Tryz.ntmps25;go_wp2_with fail;refine (as_nil _ _).mono ?_;rintro e w1 ⟨rfl, rfl⟩;go_wp2_with fail;exact bodyPost_ret (v := .agg #[.int .i64 0, .int .i64 (-1)]) (by simp [results, Tryz.results25, go_sem]) rfl ⟨rfl, bw0⟩

set_option maxHeartbeats 4000000 in
theorem haltOf_hit (c j : Int) (w : World) (hg : w.cell? ⟨0, 0, none⟩ = some (.iface 245 (.agg #[.pointer (some ⟨4, 82, none⟩)]))) : Calls Tryz.prog 25 #[.iface 97 (.agg #[.int .i64 c, .int .i64 j])] w fun e w' => e = .returned (.agg #[.int .i64 c, .int .i64 j]) /\ Below w.heap.size w w' := by
 have hlt : 0 < w.heap.size := by
  rcases Nat.eq_zero_or_pos w.heap.size with h0 | h
  ·simp [World.cell?, h0] at hg
  ·exact h
 have HG := zd hg;clear hg;go_enter Tryz.func25, Tryz.ntmps25;go_wp2_with fail;have hb0 : zg ((w.alloc (.cells #[.int .i64 0, .int .i64 0] 97)).alloc (.cells #[.int .i64 0, .int .i64 0] 97)) (w.heap.size + 1) [.int .i64 0, .int .i64 0] := zp _ _ _ (by simp);have hr0 : zg ((w.alloc (.cells #[.int .i64 0, .int .i64 0] 97)).alloc (.cells #[.int .i64 0, .int .i64 0] 97)) w.heap.size [.int .i64 0, .int .i64 0] := (zf _ _ _).alloc _;refine (as_hit (w.heap.size + 1) c j (.int .i64 0) (.int .i64 0) _ ?_ (hb0.2.1 0 _ rfl) (hb0.2.1 1 _ rfl) (hb0.2.2 0) (hb0.2.2 1)).mono ?_
 ·rw [World.cell?_alloc_lt _ _ ⟨0, 0, none⟩ (by simp), World.cell?_alloc_lt _ _ ⟨0, 0, none⟩ hlt]; exact za HG
 rintro e w1 ⟨rfl, hw1⟩
 have hbw : Below w.heap.size w w1 := by rw [hw1]; exact below_ea (by omega) (by simp; omega) bw0 _ _ _ _ _ _
 have hB1 : zg w1 (w.heap.size + 1) [.int .i64 c, .int .i64 j] := by rw [hw1]; exact (((((hb0.alloc _).alloc _).alloc _).alloc _).setAt (i := 0) (by simp) (.int .i64 c)).setAt (i := 1) (by simp) (.int .i64 j)
 have hR1 : zg w1 w.heap.size [.int .i64 0, .int .i64 0] := by rw [hw1]; exact (((((hr0.alloc _).alloc _).alloc _).alloc _).apart (p := ⟨w.heap.size + 1, 0, none⟩) (show w.heap.size ≠ w.heap.size + 1 by omega) _).apart (p := ⟨w.heap.size + 1, 1, none⟩) (show w.heap.size ≠ w.heap.size + 1 by omega) _
 clear hw1 hb0 hr0;have b0 := hB1.2.1 0 _ rfl;have b1 := hB1.2.1 1 _ rfl;have r0 := hR1.2.1 0 _ rfl;have r1 := hR1.2.1 1 _ rfl;have rz := hR1.2.2;have rl := hR1.1;go_wp2_with fail;exact bodyPost_ret (v := .agg #[.int .i64 c, .int .i64 j]) (by simp [results, Tryz.results25, go_sem, r0, r1]) rfl ⟨rfl, (ZW hbw)⟩

theorem haltOf_any (code joint : Int) (h0 : code = 0 -> joint = -1) (w : World) (hg : w.cell? ⟨0, 0, none⟩ = some (.iface 245 (.agg #[.pointer (some ⟨4, 82, none⟩)]))) : Calls Tryz.prog 25 #[uh code joint] w fun e w' => e = .returned (.agg #[.int .i64 code, .int .i64 joint]) /\ Below w.heap.size w w' := by
 by_cases hc : code = 0
 ·rw [hc, h0 hc, show uh 0 (-1) = .nilIface from rfl];exact haltOf_nil w
 ·rw [show uh code joint = .iface 97 (.agg #[.int .i64 code, .int .i64 joint]) by unfold uh; rw [if_neg hc]];exact haltOf_hit code joint w hg

theorem isFar_any (F : Int) (w : World) : Calls Tryz.prog 57 #[.int .i64 F] w fun e w' => yG (0 <= F /\ F <= 10000) e /\ w' = w := by
 go_enter Tryz.func57, Tryz.ntmps57
 by_cases h0 : 0 <= F
 ·by_cases h1 : F <= 10000
  ·go_wp2;go_ret;exact ⟨zA ⟨h0, h1⟩, rfl⟩
  ·go_wp2;go_ret;exact ⟨zk fun h => by omega, rfl⟩
 ·go_wp2;go_ret;exact ⟨zk fun h => by omega, rfl⟩

theorem zF.zero {L : Nat} {a : Option Addr} (h : zF L w a zs) : zF 0 w a zs := fun i hi => by
 obtain ⟨b, off, e, hb, hc⟩ := h i hi;exact ⟨b, off, e, ⟨Nat.zero_le _, hb.2⟩, hc⟩
theorem backOk_mv : ∀ {xs : List St} {hv : Int} {at_ : St}, ZE n long hv at_ xs -> (∀ j, j < xs.length -> hv + zN n (xs.take j) < long) /\ long <= hv + zN n xs := by
 intro xs
 induction xs with
 | nil =>
  intro hv at_ h;refine ⟨fun j hj => by simp at hj, ?_⟩;have : long <= hv := h;rw [zM];omega
 | cons x r ih =>
  intro hv at_ h;obtain ⟨h1, h2, h3, h4⟩ := h;obtain ⟨i1, i2⟩ := ih h4;refine ⟨fun j hj => ?_, by rw [zH]; omega⟩
  cases j with
  | zero => simp [zM]; omega
  | succ j =>
   rw [List.take_succ_cons, zH];have := i1 j (by simpa using hj);omega

theorem Uy {t : Tr} (h : zD n t) (hF : 0 <= F) : xQ n t.long F ⟨t.front, t.back, 0, []⟩ := by
 obtain ⟨h1, h2⟩ := backOk_mv h.2.2.2;exact ⟨h.1, yM h.2.2.2, h.2.2.1, h1, h2, Int.le_refl _, hF, by simp⟩

theorem runIs_code {m0 m : Mv} {code joint : Int} (h : XJ n zs long F m0 m code joint) : code = 0 -> joint = -1 := by
 intro hc
 rcases h with ⟨_, _, h | ⟨_, _, i, r, _, h | h⟩⟩ | h
 ·exact h.2.2
 ·exact absurd (h.2.1 ▸ hc) h.1
 ·omega
 ·omega

def xK (code far joint : Int) (s : Sp) (long : Int) (bk ov : Value) : Value := .agg #[.int .i64 code, .int .i64 far, .int .i64 joint, .int .i64 s.piece, .int .i64 s.at_, .int .i64 s.way, .int .i64 long, bk, ov]
end Go.Proofs.YthdioeofdofleaaGreatDoor
