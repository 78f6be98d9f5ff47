import Derived.Test.YtbdggfpfpjijoabGreatDoorG27
import Derived.Test.YtbdggfpfpjijoabGreatDoorG22
namespace Go.Proofs.YtbdggfpfpjijoabGreatDoor
open Go.RowKit

def PlaceGood (n : Nt) (zs : List Int) (s : Sp) (long : Int) : Prop := NetRes n 0 0 ∧ LiesFit n.joints zs ∧ SpotOk n s ∧ (1 ≤ long ∧ long ≤ 100000)
def noTr : Tr := ⟨⟨0, 0, 0⟩, 0, []⟩
def PlaceAns (n : Nt) (zs : List Int) (s : Sp) (long : Int) (ok : Bool) (t : Tr) : Prop :=
  (PlaceGood n zs s long ∧ ∃ xs r, LayOk (NxBack n zs) n (behind n s - long) ⟨s.piece, s.way⟩ xs r ∧ ok = true ∧ t = ⟨s, long, xs⟩)
  ∨ ((¬ PlaceGood n zs s long ∨ PlaceGood n zs s long ∧ LayNo (NxBack n zs) n (behind n s - long) ⟨s.piece, s.way⟩) ∧ ok = false ∧ t = noTr)
theorem PlaceAns.unique {n : Nt} {zs : List Int} {s : Sp} {long : Int} {ok ok' : Bool} {t t' : Tr} (h : PlaceAns n zs s long ok t) (g : PlaceAns n zs s long ok' t') : ok = ok' ∧ t = t' := by
  rcases h with ⟨hg, xs, r, hl, rfl, rfl⟩ | ⟨h, rfl, rfl⟩ <;> rcases g with ⟨gg, ys, q, gl, rfl, rfl⟩ | ⟨g, rfl, rfl⟩
  · obtain ⟨rfl, rfl⟩ := layOk_unique (nxBack_fun (netGood hg.1)) hl gl
    exact ⟨rfl, rfl⟩
  · rcases g with g | ⟨_, g⟩
    · exact absurd hg g
    · exact absurd g (layOk_no (nxBack_fun (netGood hg.1)) hl)
  · rcases h with h | ⟨_, h⟩
    · exact absurd gg h
    · exact absurd h (layOk_no (nxBack_fun (netGood gg.1)) gl)
  · exact ⟨rfl, rfl⟩
theorem PlaceAns.len {n : Nt} {zs : List Int} {s : Sp} {long : Int} {ok : Bool} {t : Tr} (h : PlaceAns n zs s long ok t) : t.back.length ≤ 200 := by
  rcases h with ⟨hg, xs, r, ⟨_, hl, _⟩, rfl, rfl⟩ | ⟨h, rfl, rfl⟩
  · exact hl.few
  · simp [noTr]

def RetPl (n : Nt) (zs : List Int) (s : Sp) (long : Int) (base : Nat) (e : Ending) (w' : World) : Prop :=
  ∃ ok t a cap, PlaceAns n zs s long ok t ∧ e = .returned (.agg #[.bool ok, .int .i64 t.front.piece, .int .i64 t.front.at_, .int .i64 t.front.way, .int .i64 t.long, .slice a t.back.length cap]) ∧ StRow w' base (.slice a t.back.length cap) t.back

theorem retPl_no {n : Nt} {zs : List Int} {s : Sp} {long : Int} {base : Nat} {w' : World} (h : ¬ PlaceGood n zs s long ∨ PlaceGood n zs s long ∧ LayNo (NxBack n zs) n (behind n s - long) ⟨s.piece, s.way⟩) :
    RetPl n zs s long base (.returned (.agg #[.bool false, .int .i64 0, .int .i64 0, .int .i64 0, .int .i64 0, .slice none 0 0])) w' :=
  ⟨false, noTr, none, 0, Or.inr ⟨h, rfl, rfl⟩, rfl, Row.nil _ _ _ _ _⟩

theorem below_set6 {B N : Nat} {a w : World} (h : Below B a w) (hN : B ≤ N) (v0 v1 v2 v3 v4 v5 : Value) :
    Below B a ((((((w.setCell ⟨N, 0, none⟩ v0).setCell ⟨N, 1, none⟩ v1).setCell ⟨N, 2, none⟩ v2).setCell ⟨N, 3, none⟩ v3).setCell ⟨N, 4, none⟩ v4).setCell ⟨N, 5, none⟩ v5) :=
  (((((h.setCell (p := ⟨N, 0, none⟩) hN v0).setCell (p := ⟨N, 1, none⟩) hN v1).setCell (p := ⟨N, 2, none⟩) hN v2).setCell (p := ⟨N, 3, none⟩) hN v3).setCell (p := ⟨N, 4, none⟩) hN v4).setCell (p := ⟨N, 5, none⟩) hN v5



end Go.Proofs.YtbdggfpfpjijoabGreatDoor

