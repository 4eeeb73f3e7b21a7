/-
  DERIVED. GIVEN WITH THE SEED: THE CARDS: each row of YtccaomaobokldaaDoorRows.lean that lists a variable, with what it lists TIED to the program's text (the seventh form; the later family's looks); each row that meets fmt, with fmt's text TOLD by the authors' own Lean function (tested against real Go, not proved from fmt's source: count such statements apart). THE CARD IS WHAT COUNTS. Prove the row's statement (the work); the ties are given (YtccaomaobokldaaDoorTie.lean); close each card by the builder's one call (the guide's Derived/Test/ToyasCard.lean, 'card_holds'). Laid BY PROGRAM, IN A SANDBOX (cutbox-door.mjs). By AI agents, Wed Nov 11 2026. No macro, syntax, notation, axiom, sorry.
-/
import Derived.Test.YtccaomaobokldaaDoorRows
import GoSem.ClaimSeven
namespace Go.Proofs.YtccaomaobokldaaDoor
namespace Rows

/-- THE TIED CARD OF 'hawthornlaw14.SnapGathers'. -/
def snapGathersCard : Claim7 := { stood := { row := snapGathersRow, standIns := [], harness := (true, "a5908180d873ab5a42e81f95e5211f15985f2d5d63cdfb514da6af8a1a4dffaa"), looks := false }, kinds := [], alts := [], laidByText := true, laidKinds := [.widerDeep, .data, .data], laidTests := true, laidLooks := .later }
def SnapGathersCardSaid : Prop := Claim7.holds Tryd.pinned (.plain (OpenSpec.ofChange snapGathersSpec)) snapGathersCard

/-- THE TIED CARD OF 'hawthornlaw14.SnapSpoilt'. -/
def snapSpoiltCard : Claim7 := { stood := { row := snapSpoiltRow, standIns := [], harness := (true, "a5908180d873ab5a42e81f95e5211f15985f2d5d63cdfb514da6af8a1a4dffaa"), looks := false }, kinds := [], alts := [], laidByText := true, laidKinds := [.widerDeep, .data, .data], laidTests := true, laidLooks := .later }
def SnapSpoiltCardSaid : Prop := Claim7.holds Tryd.pinned (.plain (OpenSpec.ofChange snapSpoiltSpec)) snapSpoiltCard

/-- THE TIED CARD OF 'hawthornlaw14.SnapNone'. -/
def snapNoneCard : Claim7 := { stood := { row := snapNoneRow, standIns := [], harness := (true, "a5908180d873ab5a42e81f95e5211f15985f2d5d63cdfb514da6af8a1a4dffaa"), looks := false }, kinds := [], alts := [], laidByText := true, laidKinds := [.widerDeep, .data, .data], laidTests := true, laidLooks := .later }
def SnapNoneCardSaid : Prop := Claim7.holds Tryd.pinned (.plain (OpenSpec.ofChange snapNoneSpec)) snapNoneCard

/-- THE TIED CARD OF 'hawthornlaw14.SnapOther'. -/
def snapOtherCard : Claim7 := { stood := { row := snapOtherRow, standIns := [], harness := (true, "a5908180d873ab5a42e81f95e5211f15985f2d5d63cdfb514da6af8a1a4dffaa"), looks := false }, kinds := [], alts := [], laidByText := true, laidKinds := [.widerDeep, .data, .data], laidTests := true, laidLooks := .later }
def SnapOtherCardSaid : Prop := Claim7.holds Tryd.pinned (.plain (OpenSpec.ofChange snapOtherSpec)) snapOtherCard

/-- THE SECOND FORM's CARD OF 'hawthornlaw14.SnapGathers'. -/
def snapGathersUptoCard : Claim7 := { stood := { row := snapGathersUptoRow, standIns := [], harness := (true, "a5908180d873ab5a42e81f95e5211f15985f2d5d63cdfb514da6af8a1a4dffaa"), looks := false }, kinds := [], alts := [], laidByText := true, laidKinds := [.widerDeep, .data, .data], laidTests := true, laidLooks := .later }
def SnapGathersUptoCardSaid : Prop := Claim7.holds Tryd.pinned (.plain (OpenSpec.upto snapGathersSpec)) snapGathersUptoCard

/-- THE SECOND FORM's CARD OF 'hawthornlaw14.SnapSpoilt'. -/
def snapSpoiltUptoCard : Claim7 := { stood := { row := snapSpoiltUptoRow, standIns := [], harness := (true, "a5908180d873ab5a42e81f95e5211f15985f2d5d63cdfb514da6af8a1a4dffaa"), looks := false }, kinds := [], alts := [], laidByText := true, laidKinds := [.widerDeep, .data, .data], laidTests := true, laidLooks := .later }
def SnapSpoiltUptoCardSaid : Prop := Claim7.holds Tryd.pinned (.plain (OpenSpec.upto snapSpoiltSpec)) snapSpoiltUptoCard

/-- THE SECOND FORM's CARD OF 'hawthornlaw14.SnapNone'. -/
def snapNoneUptoCard : Claim7 := { stood := { row := snapNoneUptoRow, standIns := [], harness := (true, "a5908180d873ab5a42e81f95e5211f15985f2d5d63cdfb514da6af8a1a4dffaa"), looks := false }, kinds := [], alts := [], laidByText := true, laidKinds := [.widerDeep, .data, .data], laidTests := true, laidLooks := .later }
def SnapNoneUptoCardSaid : Prop := Claim7.holds Tryd.pinned (.plain (OpenSpec.upto snapNoneSpec)) snapNoneUptoCard

/-- THE SECOND FORM's CARD OF 'hawthornlaw14.SnapOther'. -/
def snapOtherUptoCard : Claim7 := { stood := { row := snapOtherUptoRow, standIns := [], harness := (true, "a5908180d873ab5a42e81f95e5211f15985f2d5d63cdfb514da6af8a1a4dffaa"), looks := false }, kinds := [], alts := [], laidByText := true, laidKinds := [.widerDeep, .data, .data], laidTests := true, laidLooks := .later }
def SnapOtherUptoCardSaid : Prop := Claim7.holds Tryd.pinned (.plain (OpenSpec.upto snapOtherSpec)) snapOtherUptoCard
end Rows
end Go.Proofs.YtccaomaobokldaaDoor
