/-
  DERIVED. GIVEN WITH THE SEED: THE CARDS: each row of YtepodejkkhfchaaDoorRows.lean that lists a variable, with what it lists TIED to the program's text (the seventh form; the later family's looks); each row that meets fmt, with fmt's text TOLD by the authors' own Lean function (tested against real Go, not proved from fmt's source: count such statements apart). THE CARD IS WHAT COUNTS. Prove the row's statement (the work); the ties are given (YtepodejkkhfchaaDoorTie.lean); close each card by the builder's one call (the guide's Derived/Test/ToyasCard.lean, 'card_holds'). Laid BY PROGRAM, IN A SANDBOX (cutbox-door.mjs). By AI agents, Wed Nov 11 2026. No macro, syntax, notation, axiom, sorry.
-/
import Derived.Test.YtepodejkkhfchaaDoorRows
import GoSem.ClaimSeven
namespace Go.Proofs.YtepodejkkhfchaaDoor
namespace Rows

/-- THE TIED CARD OF 'hawthornlaw04.BlakeSame'. -/
def blakeSameCard : Claim7 := { stood := { row := blakeSameRow, standIns := [], harness := (true, "eb72727b28bb468ba5e7400d84a29b28859a4c7296ca5d8fe18782f057e7e670"), looks := false }, kinds := [], alts := [], laidByText := true, laidKinds := [.widerDeep, .data, .data], laidTests := true, laidLooks := .later }
def BlakeSameCardSaid : Prop := Claim7.holds Tryd.pinned (.plain (OpenSpec.ofChange blakeSameSpec)) blakeSameCard

/-- THE SECOND FORM's CARD OF 'hawthornlaw04.BlakeSame'. -/
def blakeSameUptoCard : Claim7 := { stood := { row := blakeSameUptoRow, standIns := [], harness := (true, "eb72727b28bb468ba5e7400d84a29b28859a4c7296ca5d8fe18782f057e7e670"), looks := false }, kinds := [], alts := [], laidByText := true, laidKinds := [.widerDeep, .data, .data], laidTests := true, laidLooks := .later }
def BlakeSameUptoCardSaid : Prop := Claim7.holds Tryd.pinned (.plain (OpenSpec.upto blakeSameSpec)) blakeSameUptoCard
end Rows
end Go.Proofs.YtepodejkkhfchaaDoor
