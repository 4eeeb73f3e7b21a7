/-
  DERIVED. GIVEN WITH THE SEED: THE CARDS: each row of YtkiabladmgagdabGreatDoorRows.lean that lists a variable, with what it lists TIED to the program's text (the seventh form; the later family's looks); each row that meets fmt, with fmt's text TOLD by the authors' own Lean function (tested against real Go, not proved from fmt's source: count such statements apart). THE CARD IS WHAT COUNTS. Prove the row's statement (the work); the ties are given (YtkiabladmgagdabGreatDoorTie.lean); close each card by the builder's one call (the guide's Derived/Test/ToyasCard.lean, 'card_holds'). Laid BY PROGRAM, IN A SANDBOX (cutbox-door.mjs). By AI agents, Wed Nov 11 2026. No macro, syntax, notation, axiom, sorry.
-/
import Derived.Test.YtkiabladmgagdabGreatDoorRows
import GoSem.ClaimSeven
namespace Go.Proofs.YtkiabladmgagdabGreatDoor
namespace Rows

/-- THE TIED CARD OF 'hawthornlaw12.StoreMirrors'. -/
def storeMirrorsCard : Claim7 := { stood := { row := storeMirrorsRow, standIns := [], harness := (true, "a4fa3378235db16e575a1317c381620dc0b9f031c5969b471e069aadccaece35"), looks := true }, kinds := [], alts := [], laidByText := true, laidKinds := [.widerDeep, .data, .data], laidTests := true, laidLooks := .later }
def StoreMirrorsCardSaid : Prop := Claim7.holds Tryz.pinned (.plain (OpenSpec.ofChange storeMirrorsSpec)) storeMirrorsCard

/-- THE SECOND FORM's CARD OF 'hawthornlaw12.StoreMirrors'. -/
def storeMirrorsUptoCard : Claim7 := { stood := { row := storeMirrorsUptoRow, standIns := [], harness := (true, "a4fa3378235db16e575a1317c381620dc0b9f031c5969b471e069aadccaece35"), looks := true }, kinds := [], alts := [], laidByText := true, laidKinds := [.widerDeep, .data, .data], laidTests := true, laidLooks := .later }
def StoreMirrorsUptoCardSaid : Prop := Claim7.holds Tryz.pinned (.plain (OpenSpec.upto storeMirrorsSpec)) storeMirrorsUptoCard
end Rows
end Go.Proofs.YtkiabladmgagdabGreatDoor
