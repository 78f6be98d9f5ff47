/-
  DERIVED. GIVEN WITH THE SEED: THE CARDS: each row of YthdioeofdofleaaGreatDoorRows.lean that lists a variable, with what it lists TIED to the program's text (the seventh form; the later family's looks); each row that meets fmt, with fmt's text TOLD by the authors' own Lean function (tested against real Go, not proved from fmt's source: count such statements apart). THE CARD IS WHAT COUNTS. Prove the row's statement (the work); the ties are given (YthdioeofdofleaaGreatDoorTie.lean); close each card by the builder's one call (the guide's Derived/Test/ToyasCard.lean, 'card_holds'). Laid BY PROGRAM, IN A SANDBOX (cutbox-door.mjs). By AI agents, Wed Nov 11 2026. No macro, syntax, notation, axiom, sorry.
-/
import Derived.Test.YthdioeofdofleaaGreatDoorRows
import GoSem.ClaimSeven
namespace Go.Proofs.YthdioeofdofleaaGreatDoor
namespace Rows

/-- THE TIED CARD OF 'laws.FnTick'. -/
def fnTickCard : Claim7 := { stood := { row := fnTickRow, standIns := [], harness := (true, "87773fc50628438bd30a7999ec9c910b8e63274b5122cd61e09652375f87e932"), looks := true }, kinds := [], alts := [], laidByText := true, laidKinds := [.data, .data, .data, .handle], laidTests := true, laidLooks := .later }
def FnTickCardSaid : Prop := Claim7.holds Tryz.pinned (.plain (OpenSpec.ofChange fnTickSpec)) fnTickCard

/-- THE SECOND FORM's CARD OF 'laws.FnTick'. -/
def fnTickUptoCard : Claim7 := { stood := { row := fnTickUptoRow, standIns := [], harness := (true, "87773fc50628438bd30a7999ec9c910b8e63274b5122cd61e09652375f87e932"), looks := true }, kinds := [], alts := [], laidByText := true, laidKinds := [.data, .data, .data, .handle], laidTests := true, laidLooks := .later }
def FnTickUptoCardSaid : Prop := Claim7.holds Tryz.pinned (.plain (OpenSpec.upto fnTickSpec)) fnTickUptoCard
end Rows
end Go.Proofs.YthdioeofdofleaaGreatDoor
