/-
  NARROWER THAN 'FOR EVERY INPUT', by the rows' own cells (each row's printed sentence says how): LabelRound: laid · LabelWays: laid · LabelPrints: laid · LabelParses: laid.
  DERIVED. THE GIVEN ROWS OF THIS SEAT. 4 by the template 'for every input the law returns true; each argument reads behind the call as it read before'; 0 by the template 'total and deterministic' (their statements: YtmfkhpledgnipaaDoorTotals.lean).
  GIVEN WITH THE SEED: the statements are not yours to turn. If you find one false, say at which input.
  Laid BY PROGRAM, IN A SANDBOX (cutbox-rows.mjs): the forced cells as the released guide's own fill.sh prints them over the translation 962e0fba94c3a57e… (all of the seat's roots in one cut). By AI agents, Wed Nov 11 2026. No macro, syntax, notation, axiom, sorry.
-/
import Derived.Test.YtmfkhpledgnipaaDoorChecked
import GoSem.Claim
import GoSem.ClaimJoined
import GoSem.ClaimMapViews
import Derived.JoinedTies
import Derived.KernelRfl
namespace Go.Proofs.YtmfkhpledgnipaaDoor
/- THE CELL 'sum', in the pinned program and in every row, IS THE sha256 OF THE DUMP (.gsa) THAT YtmfkhpledgnipaaDoorProg.lean LOADS. Nothing in Lean hashes anything: it is a label: what it is worth is what the hold of that sum in a sandbox is worth. -/
noncomputable def Tryd.pinned : Pinned := { name := "ytmfkhpledgnipaadoor", sum := "962e0fba94c3a57e8b8622121f7a0832f805d14f61c382e0c3071f2a5dcfc002", checked := Tryd.checked }
namespace Rows
def none {H : Type} : Left H := { results := [], args := [] }

/- WHAT THE LISTED PACKAGE-LEVEL VARIABLES READ AS WHEN THE CALL BEGINS. Each datum BY PROGRAM (the guide's laid-datum.mjs) off the statement by which the dump's own 'gosem.cut.vars' lays the variable. In a bare row this is a premise. The card (YtmfkhpledgnipaaDoorCards.lean) ties it to the program's text. -/
def laid_graft_digest_digits32 {H : Type} : DataW H := .agg [.lit (.int .u8 48), .lit (.int .u8 49), .lit (.int .u8 50), .lit (.int .u8 51), .lit (.int .u8 52), .lit (.int .u8 53), .lit (.int .u8 54), .lit (.int .u8 55), .lit (.int .u8 56), .lit (.int .u8 57), .lit (.int .u8 97), .lit (.int .u8 98), .lit (.int .u8 99), .lit (.int .u8 100), .lit (.int .u8 102), .lit (.int .u8 103), .lit (.int .u8 104), .lit (.int .u8 105), .lit (.int .u8 106), .lit (.int .u8 107), .lit (.int .u8 108), .lit (.int .u8 109), .lit (.int .u8 110), .lit (.int .u8 112), .lit (.int .u8 113), .lit (.int .u8 114), .lit (.int .u8 115), .lit (.int .u8 118), .lit (.int .u8 119), .lit (.int .u8 120), .lit (.int .u8 121), .lit (.int .u8 122)]

/-- 'graftlaw2.LabelRound': WHATEVER THE INPUT: true; the input reads as it did. -/
def labelRoundSpec : ChangeSpec := { name := "labelRound", fn := fun _ => fun
  | [d] => { results := [.lit (.bool true)], args := [d] }
  | _ => none }
def labelRoundRow : OpenClaim := { program := "ytmfkhpledgnipaadoor", sum := "962e0fba94c3a57e8b8622121f7a0832f805d14f61c382e0c3071f2a5dcfc002", func := "graft/graftlaw2.LabelRound", spec := "labelRound", named := ["graft/digest.digits32"], apart := false, laid := [("graft/digest.digits32", laid_graft_digest_digits32)] }
def LabelRoundSaid : Prop := labelRoundRow.holds Tryd.pinned (OpenSpec.ofChange labelRoundSpec)

/-- ITS FALSE NEIGHBOUR: 'it returns false'. Refute it at one input. -/
def labelRoundWrong : ChangeSpec := { name := "labelRound", fn := fun _ => fun
  | [d] => { results := [.lit (.bool false)], args := [d] }
  | _ => none }
def LabelRoundWrongFalsely : Prop := labelRoundRow.holds Tryd.pinned (OpenSpec.ofChange labelRoundWrong)

/-- 'graftlaw2.LabelWays': WHATEVER THE INPUT: true; the input reads as it did. -/
def labelWaysSpec : ChangeSpec := { name := "labelWays", fn := fun _ => fun
  | [d1, d2, d3] => { results := [.lit (.bool true)], args := [d1, d2, d3] }
  | _ => none }
def labelWaysRow : OpenClaim := { program := "ytmfkhpledgnipaadoor", sum := "962e0fba94c3a57e8b8622121f7a0832f805d14f61c382e0c3071f2a5dcfc002", func := "graft/graftlaw2.LabelWays", spec := "labelWays", inPlace := ["internal/bytealg.IndexByteString", "internal/bytealg.IndexString"], named := ["graft/digest.digits32", "internal/bytealg.MaxLen"], apart := false, laid := [("graft/digest.digits32", laid_graft_digest_digits32)] }
def LabelWaysSaid : Prop := labelWaysRow.holds Tryd.pinned (OpenSpec.ofChange labelWaysSpec)

/-- ITS FALSE NEIGHBOUR: 'it returns false'. Refute it at one input. -/
def labelWaysWrong : ChangeSpec := { name := "labelWays", fn := fun _ => fun
  | [d1, d2, d3] => { results := [.lit (.bool false)], args := [d1, d2, d3] }
  | _ => none }
def LabelWaysWrongFalsely : Prop := labelWaysRow.holds Tryd.pinned (OpenSpec.ofChange labelWaysWrong)

/-- 'graftlaw2.LabelPrints': WHATEVER THE INPUT: true; the input reads as it did. -/
def labelPrintsSpec : ChangeSpec := { name := "labelPrints", fn := fun _ => fun
  | [d1, d2] => { results := [.lit (.bool true)], args := [d1, d2] }
  | _ => none }
def labelPrintsRow : OpenClaim := { program := "ytmfkhpledgnipaadoor", sum := "962e0fba94c3a57e8b8622121f7a0832f805d14f61c382e0c3071f2a5dcfc002", func := "graft/graftlaw2.LabelPrints", spec := "labelPrints", inPlace := ["internal/bytealg.abigen_runtime_cmpstring"], named := ["graft/digest.digits32"], apart := false, laid := [("graft/digest.digits32", laid_graft_digest_digits32)] }
def LabelPrintsSaid : Prop := labelPrintsRow.holds Tryd.pinned (OpenSpec.ofChange labelPrintsSpec)

/-- ITS FALSE NEIGHBOUR: 'it returns false'. Refute it at one input. -/
def labelPrintsWrong : ChangeSpec := { name := "labelPrints", fn := fun _ => fun
  | [d1, d2] => { results := [.lit (.bool false)], args := [d1, d2] }
  | _ => none }
def LabelPrintsWrongFalsely : Prop := labelPrintsRow.holds Tryd.pinned (OpenSpec.ofChange labelPrintsWrong)

/-- 'graftlaw2.LabelParses': WHATEVER THE INPUT: true; the input reads as it did. -/
def labelParsesSpec : ChangeSpec := { name := "labelParses", fn := fun _ => fun
  | [d] => { results := [.lit (.bool true)], args := [d] }
  | _ => none }
def labelParsesRow : OpenClaim := { program := "ytmfkhpledgnipaadoor", sum := "962e0fba94c3a57e8b8622121f7a0832f805d14f61c382e0c3071f2a5dcfc002", func := "graft/graftlaw2.LabelParses", spec := "labelParses", inPlace := ["internal/bytealg.IndexByteString", "internal/bytealg.IndexString"], named := ["graft/digest.digits32", "internal/bytealg.MaxLen"], apart := false, laid := [("graft/digest.digits32", laid_graft_digest_digits32)] }
def LabelParsesSaid : Prop := labelParsesRow.holds Tryd.pinned (OpenSpec.ofChange labelParsesSpec)

/-- ITS FALSE NEIGHBOUR: 'it returns false'. Refute it at one input. -/
def labelParsesWrong : ChangeSpec := { name := "labelParses", fn := fun _ => fun
  | [d] => { results := [.lit (.bool false)], args := [d] }
  | _ => none }
def LabelParsesWrongFalsely : Prop := labelParsesRow.holds Tryd.pinned (OpenSpec.ofChange labelParsesWrong)

/- THE SECOND FORM. 'bulk': how many values and letters a reading holds, each counted each time it is reached (what is shared counts as often as it is met; a slice's spare places count too). A statement '..UptoSaid' is the law's where the arguments, and the package variables that the reading takes, are together of bulk at most 1048576: NARROWER than '..Said'. Prove '..Said' where nothing that the law and all that it calls make is longer than what came in: it says more and counts as full. Else prove '..UptoSaid'. A law counts once. -/
mutual
def uptoBulk {H : Type} : DataW H → Nat
  | .lit (.string bytes) => bytes.length + 1
  | .lit _ => 1
  | .nil => 1
  | .ptr d => uptoBulk d + 1
  | .slice elems spare => uptoBulkAll elems + uptoBulkAll spare + 1
  | .agg parts => uptoBulkAll parts + 1
  | .iface _ d => uptoBulk d + 1
  | .map entries => uptoBulkEntries entries + 1
  | .held _ => 1
def uptoBulkAll {H : Type} : List (DataW H) → Nat
  | [] => 0
  | d :: r => uptoBulk d + uptoBulkAll r
def uptoBulkEntries {H : Type} : List (Lit × DataW H) → Nat
  | [] => 0
  | x :: r => uptoBulkEntry x + uptoBulkEntries r
def uptoBulkEntry {H : Type} : Lit × DataW H → Nat
  | (.string bytes, d) => bytes.length + uptoBulk d + 1
  | (_, d) => uptoBulk d + 1
 end
def uptoSmall : (H : Type) → List (DataW H) → Bool := fun _ ds => decide (uptoBulkAll ds ≤ 1048576)
def OpenSpec.upto (s : _root_.Go.ChangeSpec) : _root_.Go.OpenSpec := { _root_.Go.OpenSpec.ofChange s with cond := some uptoSmall }

/-- 'graftlaw2.LabelRound', WHERE WHAT IT READS IS OF BULK AT MOST 1048576: true; the input reads as it did. -/
def labelRoundUptoRow : OpenClaim := { program := "ytmfkhpledgnipaadoor", sum := "962e0fba94c3a57e8b8622121f7a0832f805d14f61c382e0c3071f2a5dcfc002", func := "graft/graftlaw2.LabelRound", spec := "labelRound", named := ["graft/digest.digits32"], apart := false, laid := [("graft/digest.digits32", laid_graft_digest_digits32)], narrowed := true }
def LabelRoundUptoSaid : Prop := labelRoundUptoRow.holds Tryd.pinned (OpenSpec.upto labelRoundSpec)

/-- 'graftlaw2.LabelWays', WHERE WHAT IT READS IS OF BULK AT MOST 1048576: true; the input reads as it did. -/
def labelWaysUptoRow : OpenClaim := { program := "ytmfkhpledgnipaadoor", sum := "962e0fba94c3a57e8b8622121f7a0832f805d14f61c382e0c3071f2a5dcfc002", func := "graft/graftlaw2.LabelWays", spec := "labelWays", inPlace := ["internal/bytealg.IndexByteString", "internal/bytealg.IndexString"], named := ["graft/digest.digits32", "internal/bytealg.MaxLen"], apart := false, laid := [("graft/digest.digits32", laid_graft_digest_digits32)], narrowed := true }
def LabelWaysUptoSaid : Prop := labelWaysUptoRow.holds Tryd.pinned (OpenSpec.upto labelWaysSpec)

/-- 'graftlaw2.LabelPrints', WHERE WHAT IT READS IS OF BULK AT MOST 1048576: true; the input reads as it did. -/
def labelPrintsUptoRow : OpenClaim := { program := "ytmfkhpledgnipaadoor", sum := "962e0fba94c3a57e8b8622121f7a0832f805d14f61c382e0c3071f2a5dcfc002", func := "graft/graftlaw2.LabelPrints", spec := "labelPrints", inPlace := ["internal/bytealg.abigen_runtime_cmpstring"], named := ["graft/digest.digits32"], apart := false, laid := [("graft/digest.digits32", laid_graft_digest_digits32)], narrowed := true }
def LabelPrintsUptoSaid : Prop := labelPrintsUptoRow.holds Tryd.pinned (OpenSpec.upto labelPrintsSpec)

/-- 'graftlaw2.LabelParses', WHERE WHAT IT READS IS OF BULK AT MOST 1048576: true; the input reads as it did. -/
def labelParsesUptoRow : OpenClaim := { program := "ytmfkhpledgnipaadoor", sum := "962e0fba94c3a57e8b8622121f7a0832f805d14f61c382e0c3071f2a5dcfc002", func := "graft/graftlaw2.LabelParses", spec := "labelParses", inPlace := ["internal/bytealg.IndexByteString", "internal/bytealg.IndexString"], named := ["graft/digest.digits32", "internal/bytealg.MaxLen"], apart := false, laid := [("graft/digest.digits32", laid_graft_digest_digits32)], narrowed := true }
def LabelParsesUptoSaid : Prop := labelParsesUptoRow.holds Tryd.pinned (OpenSpec.upto labelParsesSpec)

end Rows
end Go.Proofs.YtmfkhpledgnipaaDoor
