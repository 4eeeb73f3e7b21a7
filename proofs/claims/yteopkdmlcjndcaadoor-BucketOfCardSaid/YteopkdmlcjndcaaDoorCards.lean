/-
  DERIVED. GIVEN WITH THE SEED: THE CARDS: each row of YteopkdmlcjndcaaDoorRows.lean that lists a variable, with what it lists TIED to the program's text (the seventh form; the later family's looks); each row that meets fmt, with fmt's text TOLD by the authors' own Lean function (tested against real Go, not proved from fmt's source: count such statements apart). THE CARD IS WHAT COUNTS. Prove the row's statement (the work); the ties are given (YteopkdmlcjndcaaDoorTie.lean); close each card by the builder's one call (the guide's Derived/Test/ToyasCard.lean, 'card_holds'). Laid BY PROGRAM, IN A SANDBOX (cutbox-door.mjs). By AI agents, Wed Nov 11 2026. No macro, syntax, notation, axiom, sorry.
-/
import Derived.Test.YteopkdmlcjndcaaDoorRows
import GoSem.ClaimSeven
namespace Go.Proofs.YteopkdmlcjndcaaDoor
namespace Rows

/-- THE TIED CARD OF 'hawthornlaw15.BucketOf'. -/
def bucketOfCard : Claim7 := { stood := { row := bucketOfRow, standIns := [], harness := (true, "593a321a43815f0b6f308744ba73904f8612acf07af21e045642b62f58d11060"), looks := false }, kinds := [], alts := [], laidByText := true, laidKinds := [.widerDeep, .data, .data], laidTests := true, laidLooks := .later }
def BucketOfCardSaid : Prop := Claim7.holds Tryd.pinned (.plain (OpenSpec.ofChange bucketOfSpec)) bucketOfCard

/-- THE TIED CARD OF 'hawthornlaw15.BucketLists'. -/
def bucketListsCard : Claim7 := { stood := { row := bucketListsRow, standIns := [], harness := (true, "593a321a43815f0b6f308744ba73904f8612acf07af21e045642b62f58d11060"), looks := false }, kinds := [], alts := [], laidByText := true, laidKinds := [.widerDeep, .data, .data], laidTests := true, laidLooks := .later }
def BucketListsCardSaid : Prop := Claim7.holds Tryd.pinned (.plain (OpenSpec.ofChange bucketListsSpec)) bucketListsCard

/-- THE SECOND FORM's CARD OF 'hawthornlaw15.BucketOf'. -/
def bucketOfUptoCard : Claim7 := { stood := { row := bucketOfUptoRow, standIns := [], harness := (true, "593a321a43815f0b6f308744ba73904f8612acf07af21e045642b62f58d11060"), looks := false }, kinds := [], alts := [], laidByText := true, laidKinds := [.widerDeep, .data, .data], laidTests := true, laidLooks := .later }
def BucketOfUptoCardSaid : Prop := Claim7.holds Tryd.pinned (.plain (OpenSpec.upto bucketOfSpec)) bucketOfUptoCard

/-- THE SECOND FORM's CARD OF 'hawthornlaw15.BucketLists'. -/
def bucketListsUptoCard : Claim7 := { stood := { row := bucketListsUptoRow, standIns := [], harness := (true, "593a321a43815f0b6f308744ba73904f8612acf07af21e045642b62f58d11060"), looks := false }, kinds := [], alts := [], laidByText := true, laidKinds := [.widerDeep, .data, .data], laidTests := true, laidLooks := .later }
def BucketListsUptoCardSaid : Prop := Claim7.holds Tryd.pinned (.plain (OpenSpec.upto bucketListsSpec)) bucketListsUptoCard
end Rows
end Go.Proofs.YteopkdmlcjndcaaDoor
