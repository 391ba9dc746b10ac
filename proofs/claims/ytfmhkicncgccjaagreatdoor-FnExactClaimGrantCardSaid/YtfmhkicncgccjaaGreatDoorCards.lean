/-
  DERIVED. GIVEN WITH THE SEED: THE CARDS: each row of YtfmhkicncgccjaaGreatDoorRows.lean that lists a variable, with what it lists TIED to the program's text (the seventh form; the later family's looks); each row that meets fmt, with fmt's text TOLD by the authors' own Lean function (tested against real Go, not proved from fmt's source: count such statements apart). THE CARD IS WHAT COUNTS. Prove the row's statement (the work); the ties are given (YtfmhkicncgccjaaGreatDoorTie.lean); close each card by the builder's one call (the guide's Derived/Test/ToyasCard.lean, 'card_holds'). Laid BY PROGRAM, IN A SANDBOX (cutbox-door.mjs). By AI agents, Wed Nov 11 2026. No macro, syntax, notation, axiom, sorry.
-/
import Derived.Test.YtfmhkicncgccjaaGreatDoorRows
import GoSem.ClaimSeven
namespace Go.Proofs.YtfmhkicncgccjaaGreatDoor
namespace Rows

/-- THE TIED CARD OF 'laws.FnExactClaimCode'. -/
def fnExactClaimCodeCard : Claim7 := { stood := { row := fnExactClaimCodeRow, standIns := [], harness := (true, "7dd655639170d2bd3d293d9b7d82dd2a41fdf0eb284b56ab285744bc1fed89e1"), looks := true }, kinds := [], alts := [], laidByText := true, laidKinds := [.data, .data, .data, .handle], laidTests := true, laidLooks := .later }
def FnExactClaimCodeCardSaid : Prop := Claim7.holds Tryz.pinned (.plain (OpenSpec.ofChange fnExactClaimCodeSpec)) fnExactClaimCodeCard

/-- THE TIED CARD OF 'laws.FnExactClaimGrant'. -/
def fnExactClaimGrantCard : Claim7 := { stood := { row := fnExactClaimGrantRow, standIns := [], harness := (true, "7dd655639170d2bd3d293d9b7d82dd2a41fdf0eb284b56ab285744bc1fed89e1"), looks := true }, kinds := [], alts := [], laidByText := true, laidKinds := [.data, .data, .data, .handle], laidTests := true, laidLooks := .later }
def FnExactClaimGrantCardSaid : Prop := Claim7.holds Tryz.pinned (.plain (OpenSpec.ofChange fnExactClaimGrantSpec)) fnExactClaimGrantCard

/-- THE SECOND FORM's CARD OF 'laws.FnExactClaimCode'. -/
def fnExactClaimCodeUptoCard : Claim7 := { stood := { row := fnExactClaimCodeUptoRow, standIns := [], harness := (true, "7dd655639170d2bd3d293d9b7d82dd2a41fdf0eb284b56ab285744bc1fed89e1"), looks := true }, kinds := [], alts := [], laidByText := true, laidKinds := [.data, .data, .data, .handle], laidTests := true, laidLooks := .later }
def FnExactClaimCodeUptoCardSaid : Prop := Claim7.holds Tryz.pinned (.plain (OpenSpec.upto fnExactClaimCodeSpec)) fnExactClaimCodeUptoCard

/-- THE SECOND FORM's CARD OF 'laws.FnExactClaimGrant'. -/
def fnExactClaimGrantUptoCard : Claim7 := { stood := { row := fnExactClaimGrantUptoRow, standIns := [], harness := (true, "7dd655639170d2bd3d293d9b7d82dd2a41fdf0eb284b56ab285744bc1fed89e1"), looks := true }, kinds := [], alts := [], laidByText := true, laidKinds := [.data, .data, .data, .handle], laidTests := true, laidLooks := .later }
def FnExactClaimGrantUptoCardSaid : Prop := Claim7.holds Tryz.pinned (.plain (OpenSpec.upto fnExactClaimGrantSpec)) fnExactClaimGrantUptoCard
end Rows
end Go.Proofs.YtfmhkicncgccjaaGreatDoor
