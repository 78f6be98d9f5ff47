/-
  DERIVED. GIVEN WITH THE SEED: THE CARDS: each row of YtbdggfpfpjijoabGreatDoorRows.lean that lists a variable, with what it lists TIED to the program's text (the seventh form; the later family's looks); each row that meets fmt, with fmt's text TOLD by the authors' own Lean function (tested against real Go, not proved from fmt's source: count such statements apart). THE CARD IS WHAT COUNTS. Prove the row's statement (the work); the ties are given (YtbdggfpfpjijoabGreatDoorTie.lean); close each card by the builder's one call (the guide's Derived/Test/ToyasCard.lean, 'card_holds'). Laid BY PROGRAM, IN A SANDBOX (cutbox-door.mjs). By AI agents, Wed Nov 11 2026. No macro, syntax, notation, axiom, sorry.
-/
import Derived.Test.YtbdggfpfpjijoabGreatDoorRows
import GoSem.ClaimSeven
namespace Go.Proofs.YtbdggfpfpjijoabGreatDoor
namespace Rows

/-- THE TIED CARD OF 'laws.FnExactMove'. -/
def fnExactMoveCard : Claim7 := { stood := { row := fnExactMoveRow, standIns := [], harness := (true, "7cfa2d087ffd2b59b2df79b3caf3f54eb613cdefb8b80ff5ceb89a026cf8e83f"), looks := true }, kinds := [], alts := [], laidByText := true, laidKinds := [.handle], laidTests := true, laidLooks := .later }
def FnExactMoveCardSaid : Prop := Claim7.holds Tryz.pinned (.plain (OpenSpec.ofChange fnExactMoveSpec)) fnExactMoveCard

/-- THE TIED CARD OF 'laws.FnExactTick'. -/
def fnExactTickCard : Claim7 := { stood := { row := fnExactTickRow, standIns := [], harness := (true, "7cfa2d087ffd2b59b2df79b3caf3f54eb613cdefb8b80ff5ceb89a026cf8e83f"), looks := true }, kinds := [], alts := [], laidByText := true, laidKinds := [.handle], laidTests := true, laidLooks := .later }
def FnExactTickCardSaid : Prop := Claim7.holds Tryz.pinned (.plain (OpenSpec.ofChange fnExactTickSpec)) fnExactTickCard

/-- THE TIED CARD OF 'laws.FnExactShown'. -/
def fnExactShownCard : Claim7 := { stood := { row := fnExactShownRow, standIns := [], harness := (true, "7cfa2d087ffd2b59b2df79b3caf3f54eb613cdefb8b80ff5ceb89a026cf8e83f"), looks := true }, kinds := [], alts := [], laidByText := true, laidKinds := [.data, .data, .data], laidTests := true, laidLooks := .later }
def FnExactShownCardSaid : Prop := Claim7.holds Tryz.pinned (.plain (OpenSpec.ofChange fnExactShownSpec)) fnExactShownCard

/-- THE SECOND FORM's CARD OF 'laws.FnExactMove'. -/
def fnExactMoveUptoCard : Claim7 := { stood := { row := fnExactMoveUptoRow, standIns := [], harness := (true, "7cfa2d087ffd2b59b2df79b3caf3f54eb613cdefb8b80ff5ceb89a026cf8e83f"), looks := true }, kinds := [], alts := [], laidByText := true, laidKinds := [.handle], laidTests := true, laidLooks := .later }
def FnExactMoveUptoCardSaid : Prop := Claim7.holds Tryz.pinned (.plain (OpenSpec.upto fnExactMoveSpec)) fnExactMoveUptoCard

/-- THE SECOND FORM's CARD OF 'laws.FnExactTick'. -/
def fnExactTickUptoCard : Claim7 := { stood := { row := fnExactTickUptoRow, standIns := [], harness := (true, "7cfa2d087ffd2b59b2df79b3caf3f54eb613cdefb8b80ff5ceb89a026cf8e83f"), looks := true }, kinds := [], alts := [], laidByText := true, laidKinds := [.handle], laidTests := true, laidLooks := .later }
def FnExactTickUptoCardSaid : Prop := Claim7.holds Tryz.pinned (.plain (OpenSpec.upto fnExactTickSpec)) fnExactTickUptoCard

/-- THE SECOND FORM's CARD OF 'laws.FnExactShown'. -/
def fnExactShownUptoCard : Claim7 := { stood := { row := fnExactShownUptoRow, standIns := [], harness := (true, "7cfa2d087ffd2b59b2df79b3caf3f54eb613cdefb8b80ff5ceb89a026cf8e83f"), looks := true }, kinds := [], alts := [], laidByText := true, laidKinds := [.data, .data, .data], laidTests := true, laidLooks := .later }
def FnExactShownUptoCardSaid : Prop := Claim7.holds Tryz.pinned (.plain (OpenSpec.upto fnExactShownSpec)) fnExactShownUptoCard
end Rows
end Go.Proofs.YtbdggfpfpjijoabGreatDoor
