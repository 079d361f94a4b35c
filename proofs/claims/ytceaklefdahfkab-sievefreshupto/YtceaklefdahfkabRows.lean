/-
  No cell of these rows narrows 'for every input' (looked for: loops, veiled, ifaces, maps, wideKeys, modest, calm, conditions, laid).
  DERIVED. THE GIVEN ROWS OF THIS SEAT. 5 by the template 'for every input the law returns true; each argument reads behind the call as it read before'; 0 by the template 'total and deterministic' (their statements: YtceaklefdahfkabTotals.lean).
  GIVEN WITH THE SEED: the statements are not yours to turn. If you find one false, say at which input.
  Laid BY PROGRAM, IN A SANDBOX (cutbox-rows.mjs): the forced cells as the released guide's own fill.sh prints them over the translation 80231822205d87ba… (all of the seat's roots in one cut). By AI agents, Wed Nov 11 2026. No macro, syntax, notation, axiom, sorry.
-/
import Derived.Test.YtceaklefdahfkabChecked
import GoSem.Claim
import GoSem.ClaimJoined
import GoSem.ClaimMapViews
import Derived.JoinedTies
import Derived.KernelRfl
namespace Go.Proofs.Ytceaklefdahfkab
/- THE CELL 'sum', in the pinned program and in every row, IS THE sha256 OF THE DUMP (.gsa) THAT YtceaklefdahfkabProg.lean LOADS. Nothing in Lean hashes anything: it is a label: what it is worth is what the hold of that sum in a sandbox is worth. -/
noncomputable def Try.pinned : Pinned := { name := "ytceaklefdahfkab", sum := "80231822205d87bac4d6abbd63f3bf735da06f58e8d96cf7f8e290b60ab6e252", checked := Try.checked }
namespace Rows
def none {H : Type} : Left H := { results := [], args := [] }

/-- 'graftlaw5.SieveKeeps': WHATEVER THE INPUT: true; the input reads as it did. -/
def sieveKeepsSpec : ChangeSpec := { name := "sieveKeeps", fn := fun _ => fun
  | [d1, d2, d3, d4, d5] => { results := [.lit (.bool true)], args := [d1, d2, d3, d4, d5] }
  | _ => none }
def sieveKeepsRow : OpenClaim := { program := "ytceaklefdahfkab", sum := "80231822205d87bac4d6abbd63f3bf735da06f58e8d96cf7f8e290b60ab6e252", func := "graft/graftlaw5.SieveKeeps", spec := "sieveKeeps", inPlace := ["internal/bytealg.abigen_runtime_cmpstring", "internal/bytealg.IndexByte", "internal/abi.NoEscape", "internal/bytealg.MakeNoZero"], unfollowed := true, recurses := true, apart := false }
def SieveKeepsSaid : Prop := sieveKeepsRow.holds Try.pinned (OpenSpec.ofChange sieveKeepsSpec)

/-- ITS FALSE NEIGHBOUR: 'it returns false'. Refute it at one input. -/
def sieveKeepsWrong : ChangeSpec := { name := "sieveKeeps", fn := fun _ => fun
  | [d1, d2, d3, d4, d5] => { results := [.lit (.bool false)], args := [d1, d2, d3, d4, d5] }
  | _ => none }
def SieveKeepsWrongFalsely : Prop := sieveKeepsRow.holds Try.pinned (OpenSpec.ofChange sieveKeepsWrong)

/-- 'graftlaw5.SieveFresh': WHATEVER THE INPUT: true; the input reads as it did. -/
def sieveFreshSpec : ChangeSpec := { name := "sieveFresh", fn := fun _ => fun
  | [d1, d2, d3, d4] => { results := [.lit (.bool true)], args := [d1, d2, d3, d4] }
  | _ => none }
def sieveFreshRow : OpenClaim := { program := "ytceaklefdahfkab", sum := "80231822205d87bac4d6abbd63f3bf735da06f58e8d96cf7f8e290b60ab6e252", func := "graft/graftlaw5.SieveFresh", spec := "sieveFresh", inPlace := ["internal/bytealg.abigen_runtime_cmpstring", "internal/bytealg.IndexByte", "internal/abi.NoEscape", "internal/bytealg.MakeNoZero"], unfollowed := true, recurses := true, apart := false }
def SieveFreshSaid : Prop := sieveFreshRow.holds Try.pinned (OpenSpec.ofChange sieveFreshSpec)

/-- ITS FALSE NEIGHBOUR: 'it returns false'. Refute it at one input. -/
def sieveFreshWrong : ChangeSpec := { name := "sieveFresh", fn := fun _ => fun
  | [d1, d2, d3, d4] => { results := [.lit (.bool false)], args := [d1, d2, d3, d4] }
  | _ => none }
def SieveFreshWrongFalsely : Prop := sieveFreshRow.holds Try.pinned (OpenSpec.ofChange sieveFreshWrong)

/-- 'graftlaw5.SieveScans': WHATEVER THE INPUT: true; the input reads as it did. -/
def sieveScansSpec : ChangeSpec := { name := "sieveScans", fn := fun _ => fun
  | [d1, d2, d3] => { results := [.lit (.bool true)], args := [d1, d2, d3] }
  | _ => none }
def sieveScansRow : OpenClaim := { program := "ytceaklefdahfkab", sum := "80231822205d87bac4d6abbd63f3bf735da06f58e8d96cf7f8e290b60ab6e252", func := "graft/graftlaw5.SieveScans", spec := "sieveScans", inPlace := ["internal/bytealg.abigen_runtime_cmpstring", "internal/bytealg.IndexByte"], unfollowed := true, recurses := true, apart := false }
def SieveScansSaid : Prop := sieveScansRow.holds Try.pinned (OpenSpec.ofChange sieveScansSpec)

/-- ITS FALSE NEIGHBOUR: 'it returns false'. Refute it at one input. -/
def sieveScansWrong : ChangeSpec := { name := "sieveScans", fn := fun _ => fun
  | [d1, d2, d3] => { results := [.lit (.bool false)], args := [d1, d2, d3] }
  | _ => none }
def SieveScansWrongFalsely : Prop := sieveScansRow.holds Try.pinned (OpenSpec.ofChange sieveScansWrong)

/-- 'graftlaw5.SieveStreams': WHATEVER THE INPUT: true; the input reads as it did. -/
def sieveStreamsSpec : ChangeSpec := { name := "sieveStreams", fn := fun _ => fun
  | [d1, d2, d3, d4, d5, d6] => { results := [.lit (.bool true)], args := [d1, d2, d3, d4, d5, d6] }
  | _ => none }
def sieveStreamsRow : OpenClaim := { program := "ytceaklefdahfkab", sum := "80231822205d87bac4d6abbd63f3bf735da06f58e8d96cf7f8e290b60ab6e252", func := "graft/graftlaw5.SieveStreams", spec := "sieveStreams", inPlace := ["internal/bytealg.abigen_runtime_cmpstring", "internal/bytealg.IndexByte", "internal/abi.NoEscape", "internal/bytealg.MakeNoZero"], unfollowed := true, recurses := true, apart := false }
def SieveStreamsSaid : Prop := sieveStreamsRow.holds Try.pinned (OpenSpec.ofChange sieveStreamsSpec)

/-- ITS FALSE NEIGHBOUR: 'it returns false'. Refute it at one input. -/
def sieveStreamsWrong : ChangeSpec := { name := "sieveStreams", fn := fun _ => fun
  | [d1, d2, d3, d4, d5, d6] => { results := [.lit (.bool false)], args := [d1, d2, d3, d4, d5, d6] }
  | _ => none }
def SieveStreamsWrongFalsely : Prop := sieveStreamsRow.holds Try.pinned (OpenSpec.ofChange sieveStreamsWrong)

/-- 'graftlaw5.SieveWrites': WHATEVER THE INPUT: true; the input reads as it did. -/
def sieveWritesSpec : ChangeSpec := { name := "sieveWrites", fn := fun _ => fun
  | [d1, d2, d3] => { results := [.lit (.bool true)], args := [d1, d2, d3] }
  | _ => none }
def sieveWritesRow : OpenClaim := { program := "ytceaklefdahfkab", sum := "80231822205d87bac4d6abbd63f3bf735da06f58e8d96cf7f8e290b60ab6e252", func := "graft/graftlaw5.SieveWrites", spec := "sieveWrites", inPlace := ["internal/bytealg.abigen_runtime_cmpstring", "internal/bytealg.IndexByte", "internal/abi.NoEscape", "internal/bytealg.MakeNoZero"], unfollowed := true, recurses := true, apart := false }
def SieveWritesSaid : Prop := sieveWritesRow.holds Try.pinned (OpenSpec.ofChange sieveWritesSpec)

/-- ITS FALSE NEIGHBOUR: 'it returns false'. Refute it at one input. -/
def sieveWritesWrong : ChangeSpec := { name := "sieveWrites", fn := fun _ => fun
  | [d1, d2, d3] => { results := [.lit (.bool false)], args := [d1, d2, d3] }
  | _ => none }
def SieveWritesWrongFalsely : Prop := sieveWritesRow.holds Try.pinned (OpenSpec.ofChange sieveWritesWrong)

/- THE SECOND FORM. 'bulk': how many values and letters a reading holds, each counted each time it is reached (what is shared counts as often as it is met; a slice's spare places count too). A statement '..UptoSaid' is the law's where the arguments, and the package variables that the reading takes, are together of bulk at most 1048576: NARROWER than '..Said'. Prove '..Said' where nothing that the law and all that it calls make is longer than what came in: it says more and counts as full. Else prove '..UptoSaid'. A law counts once. -/
mutual
def uptoBulk {H : Type} : DataW H → Nat
  | .lit (.string bytes) => bytes.length + 1
  | .lit _ => 1
  | .nil => 1
  | .ptr d => uptoBulk d + 1
  | .slice elems spare => uptoBulkAll elems + uptoBulkAll spare + 1
  | .agg parts => uptoBulkAll parts + 1
  | .iface _ d => uptoBulk d + 1
  | .map entries => uptoBulkEntries entries + 1
  | .held _ => 1
def uptoBulkAll {H : Type} : List (DataW H) → Nat
  | [] => 0
  | d :: r => uptoBulk d + uptoBulkAll r
def uptoBulkEntries {H : Type} : List (Lit × DataW H) → Nat
  | [] => 0
  | x :: r => uptoBulkEntry x + uptoBulkEntries r
def uptoBulkEntry {H : Type} : Lit × DataW H → Nat
  | (.string bytes, d) => bytes.length + uptoBulk d + 1
  | (_, d) => uptoBulk d + 1
 end
def uptoSmall : (H : Type) → List (DataW H) → Bool := fun _ ds => decide (uptoBulkAll ds ≤ 1048576)
def OpenSpec.upto (s : _root_.Go.ChangeSpec) : _root_.Go.OpenSpec := { _root_.Go.OpenSpec.ofChange s with cond := some uptoSmall }

/-- 'graftlaw5.SieveKeeps', WHERE WHAT IT READS IS OF BULK AT MOST 1048576: true; the input reads as it did. -/
def sieveKeepsUptoRow : OpenClaim := { program := "ytceaklefdahfkab", sum := "80231822205d87bac4d6abbd63f3bf735da06f58e8d96cf7f8e290b60ab6e252", func := "graft/graftlaw5.SieveKeeps", spec := "sieveKeeps", inPlace := ["internal/bytealg.abigen_runtime_cmpstring", "internal/bytealg.IndexByte", "internal/abi.NoEscape", "internal/bytealg.MakeNoZero"], unfollowed := true, recurses := true, apart := false, narrowed := true }
def SieveKeepsUptoSaid : Prop := sieveKeepsUptoRow.holds Try.pinned (OpenSpec.upto sieveKeepsSpec)

/-- 'graftlaw5.SieveFresh', WHERE WHAT IT READS IS OF BULK AT MOST 1048576: true; the input reads as it did. -/
def sieveFreshUptoRow : OpenClaim := { program := "ytceaklefdahfkab", sum := "80231822205d87bac4d6abbd63f3bf735da06f58e8d96cf7f8e290b60ab6e252", func := "graft/graftlaw5.SieveFresh", spec := "sieveFresh", inPlace := ["internal/bytealg.abigen_runtime_cmpstring", "internal/bytealg.IndexByte", "internal/abi.NoEscape", "internal/bytealg.MakeNoZero"], unfollowed := true, recurses := true, apart := false, narrowed := true }
def SieveFreshUptoSaid : Prop := sieveFreshUptoRow.holds Try.pinned (OpenSpec.upto sieveFreshSpec)

/-- 'graftlaw5.SieveScans', WHERE WHAT IT READS IS OF BULK AT MOST 1048576: true; the input reads as it did. -/
def sieveScansUptoRow : OpenClaim := { program := "ytceaklefdahfkab", sum := "80231822205d87bac4d6abbd63f3bf735da06f58e8d96cf7f8e290b60ab6e252", func := "graft/graftlaw5.SieveScans", spec := "sieveScans", inPlace := ["internal/bytealg.abigen_runtime_cmpstring", "internal/bytealg.IndexByte"], unfollowed := true, recurses := true, apart := false, narrowed := true }
def SieveScansUptoSaid : Prop := sieveScansUptoRow.holds Try.pinned (OpenSpec.upto sieveScansSpec)

/-- 'graftlaw5.SieveStreams', WHERE WHAT IT READS IS OF BULK AT MOST 1048576: true; the input reads as it did. -/
def sieveStreamsUptoRow : OpenClaim := { program := "ytceaklefdahfkab", sum := "80231822205d87bac4d6abbd63f3bf735da06f58e8d96cf7f8e290b60ab6e252", func := "graft/graftlaw5.SieveStreams", spec := "sieveStreams", inPlace := ["internal/bytealg.abigen_runtime_cmpstring", "internal/bytealg.IndexByte", "internal/abi.NoEscape", "internal/bytealg.MakeNoZero"], unfollowed := true, recurses := true, apart := false, narrowed := true }
def SieveStreamsUptoSaid : Prop := sieveStreamsUptoRow.holds Try.pinned (OpenSpec.upto sieveStreamsSpec)

/-- 'graftlaw5.SieveWrites', WHERE WHAT IT READS IS OF BULK AT MOST 1048576: true; the input reads as it did. -/
def sieveWritesUptoRow : OpenClaim := { program := "ytceaklefdahfkab", sum := "80231822205d87bac4d6abbd63f3bf735da06f58e8d96cf7f8e290b60ab6e252", func := "graft/graftlaw5.SieveWrites", spec := "sieveWrites", inPlace := ["internal/bytealg.abigen_runtime_cmpstring", "internal/bytealg.IndexByte", "internal/abi.NoEscape", "internal/bytealg.MakeNoZero"], unfollowed := true, recurses := true, apart := false, narrowed := true }
def SieveWritesUptoSaid : Prop := sieveWritesUptoRow.holds Try.pinned (OpenSpec.upto sieveWritesSpec)

end Rows
end Go.Proofs.Ytceaklefdahfkab
