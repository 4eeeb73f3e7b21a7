/-
  NARROWER THAN 'FOR EVERY INPUT', by the rows' own cells (each row's printed sentence says how): WireNums: laid · WireTexts: laid · WireChecks: laid · WireFrames: laid · WireOpens: laid · WireSpoilt: laid · WireReads: laid · WirePairs: laid.
  DERIVED. THE GIVEN ROWS OF THIS SEAT. 8 by the template 'for every input the law returns true; each argument reads behind the call as it read before'; 0 by the template 'total and deterministic' (their statements: YtmoammadibepkaaDoorTotals.lean).
  GIVEN WITH THE SEED: the statements are not yours to turn. If you find one false, say at which input.
  Laid BY PROGRAM, IN A SANDBOX (cutbox-rows.mjs): the forced cells as the released guide's own fill.sh prints them over the translation aa3f692debe21e0a… (all of the seat's roots in one cut). By AI agents, Wed Nov 11 2026. No macro, syntax, notation, axiom, sorry.
-/
import Derived.Test.YtmoammadibepkaaDoorChecked
import GoSem.Claim
import GoSem.ClaimJoined
import GoSem.ClaimMapViews
import Derived.JoinedTies
import Derived.KernelRfl
namespace Go.Proofs.YtmoammadibepkaaDoor
/- THE CELL 'sum', in the pinned program and in every row, IS THE sha256 OF THE DUMP (.gsa) THAT YtmoammadibepkaaDoorProg.lean LOADS. Nothing in Lean hashes anything: it is a label: what it is worth is what the hold of that sum in a sandbox is worth. -/
noncomputable def Tryd.pinned : Pinned := { name := "ytmoammadibepkaadoor", sum := "aa3f692debe21e0a9fe438a0b88a01ee1bfea86bfe4988f4a31aacfef9cee42a", checked := Tryd.checked }
namespace Rows
def none {H : Type} : Left H := { results := [], args := [] }

/- WHAT THE LISTED PACKAGE-LEVEL VARIABLES READ AS WHEN THE CALL BEGINS. Each datum BY PROGRAM (the guide's laid-datum.mjs) off the statement by which the dump's own 'gosem.cut.vars' lays the variable. In a bare row this is a premise. The card (YtmoammadibepkaaDoorCards.lean) ties it to the program's text. -/
def laid_hawthorn_wire_halves {H : Type} : DataW H := .agg [.lit (.int .u32 0), .lit (.int .u32 2211385148), .lit (.int .u32 3523063333), .lit (.int .u32 1379049753), .lit (.int .u32 1972956183), .lit (.int .u32 4132954923), .lit (.int .u32 2758099506), .lit (.int .u32 665472270), .lit (.int .u32 3945912366), .lit (.int .u32 1761531666), .lit (.int .u32 986478091), .lit (.int .u32 3104012599), .lit (.int .u32 2661889081), .lit (.int .u32 493239045), .lit (.int .u32 1330944540), .lit (.int .u32 3432748320)]

/-- 'hawthornlaw03.WireNums': WHATEVER THE INPUT: true; the input reads as it did. -/
def wireNumsSpec : ChangeSpec := { name := "wireNums", fn := fun _ => fun
  | [d1, d2, d3] => { results := [.lit (.bool true)], args := [d1, d2, d3] }
  | _ => none }
def wireNumsRow : OpenClaim := { program := "ytmoammadibepkaadoor", sum := "aa3f692debe21e0a9fe438a0b88a01ee1bfea86bfe4988f4a31aacfef9cee42a", func := "hawthorn/hawthornlaw03.WireNums", spec := "wireNums", unfollowed := true, recurses := true, named := ["hawthorn/wire.halves"], apart := false, laid := [("hawthorn/wire.halves", laid_hawthorn_wire_halves)] }
def WireNumsSaid : Prop := wireNumsRow.holds Tryd.pinned (OpenSpec.ofChange wireNumsSpec)

/-- ITS FALSE NEIGHBOUR: 'it returns false'. Refute it at one input. -/
def wireNumsWrong : ChangeSpec := { name := "wireNums", fn := fun _ => fun
  | [d1, d2, d3] => { results := [.lit (.bool false)], args := [d1, d2, d3] }
  | _ => none }
def WireNumsWrongFalsely : Prop := wireNumsRow.holds Tryd.pinned (OpenSpec.ofChange wireNumsWrong)

/-- 'hawthornlaw03.WireTexts': WHATEVER THE INPUT: true; the input reads as it did. -/
def wireTextsSpec : ChangeSpec := { name := "wireTexts", fn := fun _ => fun
  | [d1, d2, d3] => { results := [.lit (.bool true)], args := [d1, d2, d3] }
  | _ => none }
def wireTextsRow : OpenClaim := { program := "ytmoammadibepkaadoor", sum := "aa3f692debe21e0a9fe438a0b88a01ee1bfea86bfe4988f4a31aacfef9cee42a", func := "hawthorn/hawthornlaw03.WireTexts", spec := "wireTexts", unfollowed := true, recurses := true, named := ["hawthorn/wire.halves"], apart := false, laid := [("hawthorn/wire.halves", laid_hawthorn_wire_halves)] }
def WireTextsSaid : Prop := wireTextsRow.holds Tryd.pinned (OpenSpec.ofChange wireTextsSpec)

/-- ITS FALSE NEIGHBOUR: 'it returns false'. Refute it at one input. -/
def wireTextsWrong : ChangeSpec := { name := "wireTexts", fn := fun _ => fun
  | [d1, d2, d3] => { results := [.lit (.bool false)], args := [d1, d2, d3] }
  | _ => none }
def WireTextsWrongFalsely : Prop := wireTextsRow.holds Tryd.pinned (OpenSpec.ofChange wireTextsWrong)

/-- 'hawthornlaw03.WireChecks': WHATEVER THE INPUT: true; the input reads as it did. -/
def wireChecksSpec : ChangeSpec := { name := "wireChecks", fn := fun _ => fun
  | [d] => { results := [.lit (.bool true)], args := [d] }
  | _ => none }
def wireChecksRow : OpenClaim := { program := "ytmoammadibepkaadoor", sum := "aa3f692debe21e0a9fe438a0b88a01ee1bfea86bfe4988f4a31aacfef9cee42a", func := "hawthorn/hawthornlaw03.WireChecks", spec := "wireChecks", unfollowed := true, recurses := true, named := ["hawthorn/wire.halves"], apart := false, laid := [("hawthorn/wire.halves", laid_hawthorn_wire_halves)] }
def WireChecksSaid : Prop := wireChecksRow.holds Tryd.pinned (OpenSpec.ofChange wireChecksSpec)

/-- ITS FALSE NEIGHBOUR: 'it returns false'. Refute it at one input. -/
def wireChecksWrong : ChangeSpec := { name := "wireChecks", fn := fun _ => fun
  | [d] => { results := [.lit (.bool false)], args := [d] }
  | _ => none }
def WireChecksWrongFalsely : Prop := wireChecksRow.holds Tryd.pinned (OpenSpec.ofChange wireChecksWrong)

/-- 'hawthornlaw03.WireFrames': WHATEVER THE INPUT: true; the input reads as it did. -/
def wireFramesSpec : ChangeSpec := { name := "wireFrames", fn := fun _ => fun
  | [d1, d2] => { results := [.lit (.bool true)], args := [d1, d2] }
  | _ => none }
def wireFramesRow : OpenClaim := { program := "ytmoammadibepkaadoor", sum := "aa3f692debe21e0a9fe438a0b88a01ee1bfea86bfe4988f4a31aacfef9cee42a", func := "hawthorn/hawthornlaw03.WireFrames", spec := "wireFrames", unfollowed := true, recurses := true, named := ["hawthorn/wire.halves"], apart := false, laid := [("hawthorn/wire.halves", laid_hawthorn_wire_halves)] }
def WireFramesSaid : Prop := wireFramesRow.holds Tryd.pinned (OpenSpec.ofChange wireFramesSpec)

/-- ITS FALSE NEIGHBOUR: 'it returns false'. Refute it at one input. -/
def wireFramesWrong : ChangeSpec := { name := "wireFrames", fn := fun _ => fun
  | [d1, d2] => { results := [.lit (.bool false)], args := [d1, d2] }
  | _ => none }
def WireFramesWrongFalsely : Prop := wireFramesRow.holds Tryd.pinned (OpenSpec.ofChange wireFramesWrong)

/-- 'hawthornlaw03.WireOpens': WHATEVER THE INPUT: true; the input reads as it did. -/
def wireOpensSpec : ChangeSpec := { name := "wireOpens", fn := fun _ => fun
  | [d] => { results := [.lit (.bool true)], args := [d] }
  | _ => none }
def wireOpensRow : OpenClaim := { program := "ytmoammadibepkaadoor", sum := "aa3f692debe21e0a9fe438a0b88a01ee1bfea86bfe4988f4a31aacfef9cee42a", func := "hawthorn/hawthornlaw03.WireOpens", spec := "wireOpens", unfollowed := true, recurses := true, named := ["hawthorn/wire.halves"], apart := false, laid := [("hawthorn/wire.halves", laid_hawthorn_wire_halves)] }
def WireOpensSaid : Prop := wireOpensRow.holds Tryd.pinned (OpenSpec.ofChange wireOpensSpec)

/-- ITS FALSE NEIGHBOUR: 'it returns false'. Refute it at one input. -/
def wireOpensWrong : ChangeSpec := { name := "wireOpens", fn := fun _ => fun
  | [d] => { results := [.lit (.bool false)], args := [d] }
  | _ => none }
def WireOpensWrongFalsely : Prop := wireOpensRow.holds Tryd.pinned (OpenSpec.ofChange wireOpensWrong)

/-- 'hawthornlaw03.WireSpoilt': WHATEVER THE INPUT: true; the input reads as it did. -/
def wireSpoiltSpec : ChangeSpec := { name := "wireSpoilt", fn := fun _ => fun
  | [d1, d2, d3] => { results := [.lit (.bool true)], args := [d1, d2, d3] }
  | _ => none }
def wireSpoiltRow : OpenClaim := { program := "ytmoammadibepkaadoor", sum := "aa3f692debe21e0a9fe438a0b88a01ee1bfea86bfe4988f4a31aacfef9cee42a", func := "hawthorn/hawthornlaw03.WireSpoilt", spec := "wireSpoilt", unfollowed := true, recurses := true, named := ["hawthorn/wire.halves"], apart := false, laid := [("hawthorn/wire.halves", laid_hawthorn_wire_halves)] }
def WireSpoiltSaid : Prop := wireSpoiltRow.holds Tryd.pinned (OpenSpec.ofChange wireSpoiltSpec)

/-- ITS FALSE NEIGHBOUR: 'it returns false'. Refute it at one input. -/
def wireSpoiltWrong : ChangeSpec := { name := "wireSpoilt", fn := fun _ => fun
  | [d1, d2, d3] => { results := [.lit (.bool false)], args := [d1, d2, d3] }
  | _ => none }
def WireSpoiltWrongFalsely : Prop := wireSpoiltRow.holds Tryd.pinned (OpenSpec.ofChange wireSpoiltWrong)

/-- 'hawthornlaw03.WireReads': WHATEVER THE INPUT: true; the input reads as it did. -/
def wireReadsSpec : ChangeSpec := { name := "wireReads", fn := fun _ => fun
  | [d1, d2] => { results := [.lit (.bool true)], args := [d1, d2] }
  | _ => none }
def wireReadsRow : OpenClaim := { program := "ytmoammadibepkaadoor", sum := "aa3f692debe21e0a9fe438a0b88a01ee1bfea86bfe4988f4a31aacfef9cee42a", func := "hawthorn/hawthornlaw03.WireReads", spec := "wireReads", unfollowed := true, recurses := true, named := ["hawthorn/wire.halves"], apart := false, laid := [("hawthorn/wire.halves", laid_hawthorn_wire_halves)] }
def WireReadsSaid : Prop := wireReadsRow.holds Tryd.pinned (OpenSpec.ofChange wireReadsSpec)

/-- ITS FALSE NEIGHBOUR: 'it returns false'. Refute it at one input. -/
def wireReadsWrong : ChangeSpec := { name := "wireReads", fn := fun _ => fun
  | [d1, d2] => { results := [.lit (.bool false)], args := [d1, d2] }
  | _ => none }
def WireReadsWrongFalsely : Prop := wireReadsRow.holds Tryd.pinned (OpenSpec.ofChange wireReadsWrong)

/-- 'hawthornlaw03.WirePairs': WHATEVER THE INPUT: true; the input reads as it did. -/
def wirePairsSpec : ChangeSpec := { name := "wirePairs", fn := fun _ => fun
  | [d1, d2, d3] => { results := [.lit (.bool true)], args := [d1, d2, d3] }
  | _ => none }
def wirePairsRow : OpenClaim := { program := "ytmoammadibepkaadoor", sum := "aa3f692debe21e0a9fe438a0b88a01ee1bfea86bfe4988f4a31aacfef9cee42a", func := "hawthorn/hawthornlaw03.WirePairs", spec := "wirePairs", unfollowed := true, recurses := true, named := ["hawthorn/wire.halves"], apart := false, laid := [("hawthorn/wire.halves", laid_hawthorn_wire_halves)] }
def WirePairsSaid : Prop := wirePairsRow.holds Tryd.pinned (OpenSpec.ofChange wirePairsSpec)

/-- ITS FALSE NEIGHBOUR: 'it returns false'. Refute it at one input. -/
def wirePairsWrong : ChangeSpec := { name := "wirePairs", fn := fun _ => fun
  | [d1, d2, d3] => { results := [.lit (.bool false)], args := [d1, d2, d3] }
  | _ => none }
def WirePairsWrongFalsely : Prop := wirePairsRow.holds Tryd.pinned (OpenSpec.ofChange wirePairsWrong)

/- THE SECOND FORM. 'bulk': how many values and letters a reading holds, each counted each time it is reached (what is shared counts as often as it is met; a slice's spare places count too). A statement '..UptoSaid' is the law's where the arguments, and the package variables that the reading takes, are together of bulk at most 1048576: NARROWER than '..Said'. Prove '..Said' where nothing that the law and all that it calls make is longer than what came in: it says more and counts as full. Else prove '..UptoSaid'. A law counts once. -/
mutual
def uptoBulk {H : Type} : DataW H → Nat
  | .lit (.string bytes) => bytes.length + 1
  | .lit _ => 1
  | .nil => 1
  | .ptr d => uptoBulk d + 1
  | .slice elems spare => uptoBulkAll elems + uptoBulkAll spare + 1
  | .agg parts => uptoBulkAll parts + 1
  | .iface _ d => uptoBulk d + 1
  | .map entries => uptoBulkEntries entries + 1
  | .held _ => 1
def uptoBulkAll {H : Type} : List (DataW H) → Nat
  | [] => 0
  | d :: r => uptoBulk d + uptoBulkAll r
def uptoBulkEntries {H : Type} : List (Lit × DataW H) → Nat
  | [] => 0
  | x :: r => uptoBulkEntry x + uptoBulkEntries r
def uptoBulkEntry {H : Type} : Lit × DataW H → Nat
  | (.string bytes, d) => bytes.length + uptoBulk d + 1
  | (_, d) => uptoBulk d + 1
 end
def uptoSmall : (H : Type) → List (DataW H) → Bool := fun _ ds => decide (uptoBulkAll ds ≤ 1048576)
def OpenSpec.upto (s : _root_.Go.ChangeSpec) : _root_.Go.OpenSpec := { _root_.Go.OpenSpec.ofChange s with cond := some uptoSmall }

/-- 'hawthornlaw03.WireNums', WHERE WHAT IT READS IS OF BULK AT MOST 1048576: true; the input reads as it did. -/
def wireNumsUptoRow : OpenClaim := { program := "ytmoammadibepkaadoor", sum := "aa3f692debe21e0a9fe438a0b88a01ee1bfea86bfe4988f4a31aacfef9cee42a", func := "hawthorn/hawthornlaw03.WireNums", spec := "wireNums", unfollowed := true, recurses := true, named := ["hawthorn/wire.halves"], apart := false, laid := [("hawthorn/wire.halves", laid_hawthorn_wire_halves)], narrowed := true }
def WireNumsUptoSaid : Prop := wireNumsUptoRow.holds Tryd.pinned (OpenSpec.upto wireNumsSpec)

/-- 'hawthornlaw03.WireTexts', WHERE WHAT IT READS IS OF BULK AT MOST 1048576: true; the input reads as it did. -/
def wireTextsUptoRow : OpenClaim := { program := "ytmoammadibepkaadoor", sum := "aa3f692debe21e0a9fe438a0b88a01ee1bfea86bfe4988f4a31aacfef9cee42a", func := "hawthorn/hawthornlaw03.WireTexts", spec := "wireTexts", unfollowed := true, recurses := true, named := ["hawthorn/wire.halves"], apart := false, laid := [("hawthorn/wire.halves", laid_hawthorn_wire_halves)], narrowed := true }
def WireTextsUptoSaid : Prop := wireTextsUptoRow.holds Tryd.pinned (OpenSpec.upto wireTextsSpec)

/-- 'hawthornlaw03.WireChecks', WHERE WHAT IT READS IS OF BULK AT MOST 1048576: true; the input reads as it did. -/
def wireChecksUptoRow : OpenClaim := { program := "ytmoammadibepkaadoor", sum := "aa3f692debe21e0a9fe438a0b88a01ee1bfea86bfe4988f4a31aacfef9cee42a", func := "hawthorn/hawthornlaw03.WireChecks", spec := "wireChecks", unfollowed := true, recurses := true, named := ["hawthorn/wire.halves"], apart := false, laid := [("hawthorn/wire.halves", laid_hawthorn_wire_halves)], narrowed := true }
def WireChecksUptoSaid : Prop := wireChecksUptoRow.holds Tryd.pinned (OpenSpec.upto wireChecksSpec)

/-- 'hawthornlaw03.WireFrames', WHERE WHAT IT READS IS OF BULK AT MOST 1048576: true; the input reads as it did. -/
def wireFramesUptoRow : OpenClaim := { program := "ytmoammadibepkaadoor", sum := "aa3f692debe21e0a9fe438a0b88a01ee1bfea86bfe4988f4a31aacfef9cee42a", func := "hawthorn/hawthornlaw03.WireFrames", spec := "wireFrames", unfollowed := true, recurses := true, named := ["hawthorn/wire.halves"], apart := false, laid := [("hawthorn/wire.halves", laid_hawthorn_wire_halves)], narrowed := true }
def WireFramesUptoSaid : Prop := wireFramesUptoRow.holds Tryd.pinned (OpenSpec.upto wireFramesSpec)

/-- 'hawthornlaw03.WireOpens', WHERE WHAT IT READS IS OF BULK AT MOST 1048576: true; the input reads as it did. -/
def wireOpensUptoRow : OpenClaim := { program := "ytmoammadibepkaadoor", sum := "aa3f692debe21e0a9fe438a0b88a01ee1bfea86bfe4988f4a31aacfef9cee42a", func := "hawthorn/hawthornlaw03.WireOpens", spec := "wireOpens", unfollowed := true, recurses := true, named := ["hawthorn/wire.halves"], apart := false, laid := [("hawthorn/wire.halves", laid_hawthorn_wire_halves)], narrowed := true }
def WireOpensUptoSaid : Prop := wireOpensUptoRow.holds Tryd.pinned (OpenSpec.upto wireOpensSpec)

/-- 'hawthornlaw03.WireSpoilt', WHERE WHAT IT READS IS OF BULK AT MOST 1048576: true; the input reads as it did. -/
def wireSpoiltUptoRow : OpenClaim := { program := "ytmoammadibepkaadoor", sum := "aa3f692debe21e0a9fe438a0b88a01ee1bfea86bfe4988f4a31aacfef9cee42a", func := "hawthorn/hawthornlaw03.WireSpoilt", spec := "wireSpoilt", unfollowed := true, recurses := true, named := ["hawthorn/wire.halves"], apart := false, laid := [("hawthorn/wire.halves", laid_hawthorn_wire_halves)], narrowed := true }
def WireSpoiltUptoSaid : Prop := wireSpoiltUptoRow.holds Tryd.pinned (OpenSpec.upto wireSpoiltSpec)

/-- 'hawthornlaw03.WireReads', WHERE WHAT IT READS IS OF BULK AT MOST 1048576: true; the input reads as it did. -/
def wireReadsUptoRow : OpenClaim := { program := "ytmoammadibepkaadoor", sum := "aa3f692debe21e0a9fe438a0b88a01ee1bfea86bfe4988f4a31aacfef9cee42a", func := "hawthorn/hawthornlaw03.WireReads", spec := "wireReads", unfollowed := true, recurses := true, named := ["hawthorn/wire.halves"], apart := false, laid := [("hawthorn/wire.halves", laid_hawthorn_wire_halves)], narrowed := true }
def WireReadsUptoSaid : Prop := wireReadsUptoRow.holds Tryd.pinned (OpenSpec.upto wireReadsSpec)

/-- 'hawthornlaw03.WirePairs', WHERE WHAT IT READS IS OF BULK AT MOST 1048576: true; the input reads as it did. -/
def wirePairsUptoRow : OpenClaim := { program := "ytmoammadibepkaadoor", sum := "aa3f692debe21e0a9fe438a0b88a01ee1bfea86bfe4988f4a31aacfef9cee42a", func := "hawthorn/hawthornlaw03.WirePairs", spec := "wirePairs", unfollowed := true, recurses := true, named := ["hawthorn/wire.halves"], apart := false, laid := [("hawthorn/wire.halves", laid_hawthorn_wire_halves)], narrowed := true }
def WirePairsUptoSaid : Prop := wirePairsUptoRow.holds Tryd.pinned (OpenSpec.upto wirePairsSpec)

end Rows
end Go.Proofs.YtmoammadibepkaaDoor
