/-
  DERIVED. GIVEN WITH THE SEED: THE CARDS: each row of YtahmpggaicjgoaaGreatDoorRows.lean that lists a variable, with what it lists TIED to the program's text (the seventh form; the later family's looks); each row that meets fmt, with fmt's text TOLD by the authors' own Lean function (tested against real Go, not proved from fmt's source: count such statements apart). THE CARD IS WHAT COUNTS. Prove the row's statement (the work); the ties are given (YtahmpggaicjgoaaGreatDoorTie.lean); close each card by the builder's one call (the guide's Derived/Test/ToyasCard.lean, 'card_holds'). Laid BY PROGRAM, IN A SANDBOX (cutbox-door.mjs). By AI agents, Wed Nov 11 2026. No macro, syntax, notation, axiom, sorry.
-/
import Derived.Test.YtahmpggaicjgoaaGreatDoorRows
import GoSem.ClaimSeven
namespace Go.Proofs.YtahmpggaicjgoaaGreatDoor
namespace Rows

/-- THE TIED CARD OF 'hawthornlaw12.StoreMirrors'. -/
def storeMirrorsCard : Claim7 := { stood := { row := storeMirrorsRow, standIns := [], harness := (true, "e314c091c813ee75b76d6b53ff0a48b5ded7ae0ba18f6dec74ceb3c8649d1b6d"), looks := true }, kinds := [], alts := [], laidByText := true, laidKinds := [.widerDeep, .data, .data], laidTests := true, laidLooks := .later }
def StoreMirrorsCardSaid : Prop := Claim7.holds Tryz.pinned (.plain (OpenSpec.ofChange storeMirrorsSpec)) storeMirrorsCard

/-- THE TIED CARD OF 'hawthornlaw12.StoreDigests'. -/
def storeDigestsCard : Claim7 := { stood := { row := storeDigestsRow, standIns := [], harness := (true, "e314c091c813ee75b76d6b53ff0a48b5ded7ae0ba18f6dec74ceb3c8649d1b6d"), looks := true }, kinds := [], alts := [], laidByText := true, laidKinds := [.widerDeep, .data, .data], laidTests := true, laidLooks := .later }
def StoreDigestsCardSaid : Prop := Claim7.holds Tryz.pinned (.plain (OpenSpec.ofChange storeDigestsSpec)) storeDigestsCard

/-- THE SECOND FORM's CARD OF 'hawthornlaw12.StoreMirrors'. -/
def storeMirrorsUptoCard : Claim7 := { stood := { row := storeMirrorsUptoRow, standIns := [], harness := (true, "e314c091c813ee75b76d6b53ff0a48b5ded7ae0ba18f6dec74ceb3c8649d1b6d"), looks := true }, kinds := [], alts := [], laidByText := true, laidKinds := [.widerDeep, .data, .data], laidTests := true, laidLooks := .later }
def StoreMirrorsUptoCardSaid : Prop := Claim7.holds Tryz.pinned (.plain (OpenSpec.upto storeMirrorsSpec)) storeMirrorsUptoCard

/-- THE SECOND FORM's CARD OF 'hawthornlaw12.StoreDigests'. -/
def storeDigestsUptoCard : Claim7 := { stood := { row := storeDigestsUptoRow, standIns := [], harness := (true, "e314c091c813ee75b76d6b53ff0a48b5ded7ae0ba18f6dec74ceb3c8649d1b6d"), looks := true }, kinds := [], alts := [], laidByText := true, laidKinds := [.widerDeep, .data, .data], laidTests := true, laidLooks := .later }
def StoreDigestsUptoCardSaid : Prop := Claim7.holds Tryz.pinned (.plain (OpenSpec.upto storeDigestsSpec)) storeDigestsUptoCard
end Rows
end Go.Proofs.YtahmpggaicjgoaaGreatDoor
