import Derived.Test.YtbdggfpfpjijoabGreatDoorMRead
import Derived.Test.YtbdggfpfpjijoabGreatDoorMTs1
import Derived.Test.YtbdggfpfpjijoabGreatDoorMEq
import Derived.Test.YtbdggfpfpjijoabGreatDoorMTl4
import Derived.Test.YtbdggfpfpjijoabGreatDoorCards
import Derived.Test.YtbdggfpfpjijoabGreatDoorTie
import Derived.ProofKit
import Derived.OpenShut
import Derived.ChangeOld
import Derived.ChangeSame
import Derived.ChangeVars
import Derived.JoinedOf
import Derived.LaidLaws
import Derived.LaidHandle
import Derived.Stop.Joined
import Derived.SevenTiedAt
namespace Go.Proofs.YtbdggfpfpjijoabGreatDoor
open Go.ChangeShapes Go.WideShapes Go.ChangeAt Go.RowKit

theorem own : ownKnob Tryz.prog.godebug = none := by kernel_rfl
theorem laidOut : laidOutB Tryz.prog = true := by kernel_rfl
theorem et0 : Tryz.prog.globalNamed "errors.errorType" = some 0 := by kernel_rfl

theorem glob_of_laid {W : World} (h : laidMetH Tryz.prog Rows.fnExactTickRow.laid W) : GlobAt W := by
 have h' : laidMet Tryz.prog [] W ∧ handlesMet Tryz.prog Rows.fnExactTickRow.laid W := h
 obtain ⟨name, u, ty, e1, e2, e3, e4, e5⟩ := h'.2 _ (List.mem_singleton.2 rfl)
 have en : name = [101, 114, 114, 111, 114] := (Option.some.inj e1).symm
 subst en
 obtain rfl : u = 273 := Option.some.inj (e2.symm.trans (by kernel_rfl))
 have hs : Tryz.prog.types.size = 448 - 100 := by kernel_rfl
 have ho : ((List.range (448 - 100)).filter fun t => Tryz.prog.rowNamed t [101, 114, 114, 111, 114]) = [ 98 ] := by kernel_rfl
 have hm : ty ∈ (List.range (448 - 100)).filter fun t => Tryz.prog.rowNamed t [101, 114, 114, 111, 114] := List.mem_filter.2 ⟨List.mem_range.2 (by rw [← hs]; exact e3), e4⟩
 rw [ho] at hm
 obtain rfl := List.mem_singleton.1 hm
 have hh : typeHandle Tryz.prog 98 = .pointer (some ⟨4, 98, none⟩) := by kernel_rfl
 rw [hh] at e5
 have hc : W.cell? ⟨0, 0, none⟩ = some (.iface 273 (.agg #[.pointer (some ⟨4, 98, none⟩)])) := by simpa using World.var?_cell et0 e5 0
 refine ⟨?_, hc⟩
 rcases Nat.eq_zero_or_pos W.heap.size with h0 | h0
 ·simp [World.cell?, h0] at hc
 ·exact h0

set_option maxRecDepth 100000 in
theorem tick_lifted (os : Os) (started : os.Started) (H : Type) (enc : TypeId × Value → H) :
  ReturnsInHanded {} Tryz.checked os 4 .any (fun w args => (Rows.fnExactTickSpec.pre enc Tryz.prog Tryz.f4 [] false w args ∧ laidMetH Tryz.prog Rows.fnExactTickRow.laid w) ∧ sizedMet enc Tryz.prog Tryz.f4 (OpenSpec.ofChange Rows.fnExactTickSpec) false w args)
   (Rows.fnExactTickSpec.post enc Tryz.prog Tryz.f4 false true false false) := by
 refine returnsInHanded_of_change_and (C := Tryz.checked) (X := fun w _ => laidMetH Tryz.prog Rows.fnExactTickRow.laid w) (fun _ _ _ hh h => h.of_heap hh) own started (by kernel_rfl) Tryz.func4
  (ChangeSpec.witness_at (enc := enc) (C := Tryz.checked) (os := os) (X := fun w _ => laidMetH Tryz.prog Rows.fnExactTickRow.laid w) false ({ World.holding Tryz.prog os ⟨#[], #[], []⟩ with heap := (World.holding Tryz.prog os ⟨#[], #[], []⟩).heap.modify 0 fun o => match o with | .cells _ t frozen => .cells #[.iface 273 (.agg #[.pointer (some ⟨4, 98, none⟩)])] t frozen | o => o } : World) #[.agg #[.slice none 0 0, .slice none 0 0], .slice none 0 0, .slice none 0 0, .slice none 0 0] 8 rfl (by kernel_rfl) (by kernel_rfl) (by kernel_rfl) (by kernel_rfl) (by kernel_rfl) (laidMetH_of_parts (laidMet_nil _ _) (by kernel_rfl))) ?_
 intro W base args ds gs before hval0 hW _ _ hL _
 have hval : ∀ (j : Nat) t v, Tryz.f4.params[j]? = some t → args[j]? = some v → Value.okWide Tryz.prog W .any base t v := hval0
 have hgl := glob_of_laid hL
 have hW' := hW
 obtain ⟨p, q, hA0, hV, rfl, hfz, hnd⟩ := hW
 have hA : DataW.TrodAll enc Tryz.prog W 0 (fun _ => true) true Tryz.f4.params.toList args.toList ds p := hA0
 rw [Tryz.params4] at hA hval
 obtain ⟨v0, vs0, d0, ds0, p0, q0, hargs, rfl, rfl, h0, r0⟩ := trodAll_cons hA
 obtain ⟨v1, vs1, d1, ds1, p1, q1, rfl, rfl, rfl, h1, r1⟩ := trodAll_cons r0
 obtain ⟨v2, vs2, d2, ds2, p2, q2, rfl, rfl, rfl, h2, r2⟩ := trodAll_cons r1
 obtain ⟨v3, vs3, d3, ds3, p3, q3, rfl, rfl, rfl, h3, r3⟩ := trodAll_cons r2
 obtain ⟨rfl, rfl, rfl⟩ := trodAll_nil r3
 obtain rfl : args = #[v0, v1, v2, v3] := by cases args; simp_all
 obtain ⟨rfl, rfl⟩ := trodVars_none hV
 have k0 := h0
 have lt0 : ∀ x ∈ p0, x.block < W.heap.size := by obtain ⟨m, hm⟩ := k0; exact DataW.trod_lt m _ _ _ hm
 have k1 := h1
 have lt1 : ∀ x ∈ p1, x.block < W.heap.size := by obtain ⟨m, hm⟩ := k1; exact DataW.trod_lt m _ _ _ hm
 have k2 := h2
 have lt2 : ∀ x ∈ p2, x.block < W.heap.size := by obtain ⟨m, hm⟩ := k2; exact DataW.trod_lt m _ _ _ hm
 have k3 := h3
 have lt3 : ∀ x ∈ p3, x.block < W.heap.size := by obtain ⟨m, hm⟩ := k3; exact DataW.trod_lt m _ _ _ hm
 obtain ⟨zq, zc, zs, rfl, hz, _⟩ := readIntsV (hval 1 26 v1 rfl rfl) h1
 obtain ⟨rq, rc, ts, rfl, hr, hrl, hrb⟩ := readTrsV (hval 2 58 v2 rfl rfl) h2
 obtain ⟨sq, sc, vs, rfl, hs, _⟩ := readIntsV (hval 3 26 v3 rfl rfl) h3
 obtain ⟨n, hn, hl, hl', hle, hnm⟩ := readNet (hval 0 25 v0 rfl rfl) h0
 clear hA0 hval0
 refine (lawTick_any v0 n zq zs zc rq ts rc sq vs sc W hn hl hl' hle hnm hz hr hrl hrb hs hgl).mono fun e W' ⟨he, bel⟩ => ?_
 subst he
 exact ⟨_, rfl, _, _, _, [], _, [], hW', trodAll_mk1 (shut_bool Tryz.underlying4 _), (trodAll_cons_mk (Below.trod laidOut (by kernel_rfl) (of_decide_eq_true (by kernel_rfl)) k0 bel lt0) (trodAll_cons_mk (Below.trod laidOut (by kernel_rfl) (of_decide_eq_true (by kernel_rfl)) k1 bel lt1) (trodAll_cons_mk (Below.trod laidOut (by kernel_rfl) (of_decide_eq_true (by kernel_rfl)) k2 bel lt2) (trodAll_cons_mk (Below.trod laidOut (by kernel_rfl) (of_decide_eq_true (by kernel_rfl)) k3 bel lt3) trodAll_mk0)))), rfl, bel.frame _, fun h => by cases h⟩

theorem tick_over : Rows.fnExactTickRow.holds Tryz.pinned (OpenSpec.ofChange Rows.fnExactTickSpec) :=
 OpenClaim.holds_of_wide 4 Tryz.f4 rfl rfl rfl rfl rfl rfl rfl ⟨rfl, rfl, rfl, rfl, rfl⟩ rfl rfl rfl rfl rfl (by kernel_rfl) Tryz.func4 (by kernel_rfl)
  (of_decide_eq_true (by kernel_rfl)) (by unfold Func.isWrapper; first | (rw [if_pos (by decide +kernel)]; kernel_rfl) | (rw [if_neg (by decide +kernel)]; exact ⟨rfl, rfl⟩))
  (fun os started H enc _ => tick_lifted os started H enc)

theorem tick_holds : Rows.FnExactTickCardSaid :=
 Claim7.holds_tied_plain_at .later [] [.handle] true _ true
  tick_over (fun _ h => by cases h) (by kernel_rfl) (fun _ h => by cases h) fnExactTick_row_tie rfl ⟨rfl, rfl⟩ (by kernel_rfl) rfl
  (fun f fn hf hfn => by
   obtain rfl : f = 4 := Option.some.inj ((show Tryz.prog.funcNamed Rows.fnExactTickRow.func = some 4 by kernel_rfl).symm.trans hf) |>.symm
   obtain rfl : fn = Tryz.f4 := (Option.some.inj (Tryz.func4.symm.trans hfn)).symm
   exact ⟨by kernel_rfl, fun j t ht => by
    rw [Tryz.params4] at ht
    have h4 : t = 25 ∨ t = 26 ∨ t = 58 := by
     rcases j with _ | _ | _ | _ | j
     ·simp at ht; exact Or.inl ht.symm
     ·simp at ht; exact Or.inr (Or.inl ht.symm)
     ·simp at ht; exact Or.inr (Or.inr ht.symm)
     ·simp at ht; exact Or.inr (Or.inl ht.symm)
     ·simp at ht
    rcases h4 with rfl | rfl | rfl
    ·exact (show Tryz.prog.wantsStandIn 25 = false by kernel_rfl)
    ·exact (show Tryz.prog.wantsStandIn 26 = false by kernel_rfl)
    ·exact (show Tryz.prog.wantsStandIn 58 = false by kernel_rfl)⟩)
  (by kernel_rfl)
#print axioms tick_holds
end Go.Proofs.YtbdggfpfpjijoabGreatDoor

