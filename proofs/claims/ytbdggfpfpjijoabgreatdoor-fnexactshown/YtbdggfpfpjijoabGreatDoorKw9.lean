import Derived.Test.YtbdggfpfpjijoabGreatDoorKw8
namespace Go.Proofs.YtbdggfpfpjijoabGreatDoor
open Go.RowKit Go.Maps

/-- Whole numbers in a row of the call's own. -/
def ntF (z : Int) : List Value := [.int .i64 z]
theorem ntF_len (z : Int) : (ntF z).length = 1 := rfl
abbrev NtRow (w : World) (base : Nat) (v : Value) (zs : List Int) : Prop := Row w base 3 1 ntF v zs
theorem ntRow_at {w : World} {base : Nat} {v : Value} {zs : List Int} (h : NtRow w base v zs) : ∃ a cap, v = .slice a zs.length cap ∧ zs.length ≤ cap ∧ IntsAt base w a zs := by
  obtain ⟨a, cap, hv, hc, hx⟩ := h.shape ntF_len
  refine ⟨a, cap, hv, hc, fun i hi => ?_⟩
  obtain ⟨g, ha, hg, hj⟩ := hx i hi
  have e0 := hj 0 (by omega)
  simp only [ntF] at e0
  exact ⟨g, 0, ha, hg, by simpa using e0⟩
theorem nt_news {W : World} {N : Nat} {z : Int} (h : Boxed W N [.int .i64 z]) : ∀ j u, (ntF z)[j]? = some u → W.cell? ((⟨N, 0, none⟩ : Addr).add j) = some u := by
  intro j u hj
  match j, hj with
  | 0, hj => simp [ntF] at hj; subst hj; simpa [Addr.add] using h.2.1 0 _ rfl
theorem nt_one (z : Int) : ∀ u ∈ ntF z, u.oneCell' = true := by
  intro u hu
  simp [ntF] at hu
  subst hu
  rfl

/-- The list of told trains, in block A. -/
def ToldIs (w2 : World) (A : Nat) (tl : List Nat) (w : World) : Prop := ∃ u, Boxed w A [u] ∧ NtRow w (A + 1) u (tl.map fun (i : Nat) => (i : Int)) ∧ Below A w2 w



/-- Taken's answer. -/
def TakenGood (n : Nt) (ts : List Tr) (ps : List Pt) : Prop := WorldOk n ts ∧ PtsFit n ps
def takenL (n : Nt) (ts : List Tr) (ps : List Pt) : List Int := ((List.range ts.length).filter fun i => hits ps (bodyParts n (ts.getD i noTr'))).map fun (i : Nat) => (i : Int)
def TakenIs (n : Nt) (ts : List Tr) (ps : List Pt) (zs : List Int) : Prop := (TakenGood n ts ps ∧ zs = takenL n ts ps) ∨ (¬ TakenGood n ts ps ∧ zs = [])
theorem TakenIs.unique {n : Nt} {ts : List Tr} {ps : List Pt} {a b : List Int} (h : TakenIs n ts ps a) (g : TakenIs n ts ps b) : a = b := by
  rcases h with ⟨h1, rfl⟩ | ⟨h1, rfl⟩ <;> rcases g with ⟨g1, rfl⟩ | ⟨g1, rfl⟩
  · rfl
  · exact absurd h1 g1
  · exact absurd g1 h1
  · rfl
theorem TakenIs.len {n : Nt} {ts : List Tr} {ps : List Pt} {zs : List Int} (h : TakenIs n ts ps zs) : zs.length ≤ 20 := by
  rcases h with ⟨h1, rfl⟩ | ⟨h1, rfl⟩
  · unfold takenL
    rw [List.length_map]
    have := h1.1.2.1
    exact Nat.le_trans (List.length_filter_le _ _) (by simp; omega)
  · simp
def RetInts (P : List Int → Prop) (base : Nat) (e : Ending) (w' : World) : Prop := ∃ a cap zs, P zs ∧ e = .returned (.slice a zs.length cap) ∧ NtRow w' base (.slice a zs.length cap) zs

theorem MvAt.touch {w : World} {base : Nat} {n : Nt} {k0 k1 k2 : Value} {M i : Nat} {t : Tr} (h : MvAt w base n k0 k1 k2 M i t) (hl : (bodyParts n t).length ≤ 1048576) : IsTy w M 133 ∧ w.cell? ⟨M, 412, none⟩ = some (.int .i64 i) ∧ ∃ a c, w.cell? ⟨M, 413, none⟩ = some (.slice a (bodyParts n t).length c) ∧ PtsAt 0 w a (bodyParts n t) ∧ (bodyParts n t).length ≤ 1048576 := by
  obtain ⟨v, h5, h6⟩ := h.cov
  obtain ⟨a, cap, rfl, _, hx⟩ := ptRow_at (h6.mono (Nat.zero_le _))
  exact ⟨h.ty, h.num, a, cap, h5, hx, hl⟩



end Go.Proofs.YtbdggfpfpjijoabGreatDoor

