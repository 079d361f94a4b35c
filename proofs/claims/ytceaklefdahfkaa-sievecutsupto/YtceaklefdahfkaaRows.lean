/-
  No cell of these rows narrows 'for every input' (looked for: loops, veiled, ifaces, maps, wideKeys, modest, calm, conditions, laid).
  DERIVED. THE GIVEN ROWS OF THIS SEAT. 6 by the template 'for every input the law returns true; each argument reads behind the call as it read before'; 0 by the template 'total and deterministic' (their statements: YtceaklefdahfkaaTotals.lean).
  GIVEN WITH THE SEED: the statements are not yours to turn. If you find one false, say at which input.
  Laid BY PROGRAM, IN A SANDBOX (cutbox-rows.mjs): the forced cells as the released guide's own fill.sh prints them over the translation a456dafc58223a13… (all of the seat's roots in one cut). By AI agents, Wed Nov 11 2026. No macro, syntax, notation, axiom, sorry.
-/
import Derived.Test.YtceaklefdahfkaaChecked
import GoSem.Claim
import GoSem.ClaimJoined
import GoSem.ClaimMapViews
import Derived.JoinedTies
import Derived.KernelRfl
namespace Go.Proofs.Ytceaklefdahfkaa
/- THE CELL 'sum', in the pinned program and in every row, IS THE sha256 OF THE DUMP (.gsa) THAT YtceaklefdahfkaaProg.lean LOADS. Nothing in Lean hashes anything: it is a label: what it is worth is what the hold of that sum in a sandbox is worth. -/
noncomputable def Try.pinned : Pinned := { name := "ytceaklefdahfkaa", sum := "a456dafc58223a13e35a8161c1402adea57033ea8345b00fd7e0bf4155f1a3bd", checked := Try.checked }
namespace Rows
def none {H : Type} : Left H := { results := [], args := [] }

/-- 'graftlaw5.SieveOverlaps': WHATEVER THE INPUT: true; the input reads as it did. -/
def sieveOverlapsSpec : ChangeSpec := { name := "sieveOverlaps", fn := fun _ => fun
  | [d1, d2] => { results := [.lit (.bool true)], args := [d1, d2] }
  | _ => none }
def sieveOverlapsRow : OpenClaim := { program := "ytceaklefdahfkaa", sum := "a456dafc58223a13e35a8161c1402adea57033ea8345b00fd7e0bf4155f1a3bd", func := "graft/graftlaw5.SieveOverlaps", spec := "sieveOverlaps", apart := false }
def SieveOverlapsSaid : Prop := sieveOverlapsRow.holds Try.pinned (OpenSpec.ofChange sieveOverlapsSpec)

/-- ITS FALSE NEIGHBOUR: 'it returns false'. Refute it at one input. -/
def sieveOverlapsWrong : ChangeSpec := { name := "sieveOverlaps", fn := fun _ => fun
  | [d1, d2] => { results := [.lit (.bool false)], args := [d1, d2] }
  | _ => none }
def SieveOverlapsWrongFalsely : Prop := sieveOverlapsRow.holds Try.pinned (OpenSpec.ofChange sieveOverlapsWrong)

/-- 'graftlaw5.SieveFinds': WHATEVER THE INPUT: true; the input reads as it did. -/
def sieveFindsSpec : ChangeSpec := { name := "sieveFinds", fn := fun _ => fun
  | [d1, d2, d3, d4] => { results := [.lit (.bool true)], args := [d1, d2, d3, d4] }
  | _ => none }
def sieveFindsRow : OpenClaim := { program := "ytceaklefdahfkaa", sum := "a456dafc58223a13e35a8161c1402adea57033ea8345b00fd7e0bf4155f1a3bd", func := "graft/graftlaw5.SieveFinds", spec := "sieveFinds", inPlace := ["internal/bytealg.abigen_runtime_cmpstring", "internal/bytealg.IndexByte"], unfollowed := true, recurses := true, apart := false }
def SieveFindsSaid : Prop := sieveFindsRow.holds Try.pinned (OpenSpec.ofChange sieveFindsSpec)

/-- ITS FALSE NEIGHBOUR: 'it returns false'. Refute it at one input. -/
def sieveFindsWrong : ChangeSpec := { name := "sieveFinds", fn := fun _ => fun
  | [d1, d2, d3, d4] => { results := [.lit (.bool false)], args := [d1, d2, d3, d4] }
  | _ => none }
def SieveFindsWrongFalsely : Prop := sieveFindsRow.holds Try.pinned (OpenSpec.ofChange sieveFindsWrong)

/-- 'graftlaw5.SieveBack': WHATEVER THE INPUT: true; the input reads as it did. -/
def sieveBackSpec : ChangeSpec := { name := "sieveBack", fn := fun _ => fun
  | [d1, d2, d3, d4, d5] => { results := [.lit (.bool true)], args := [d1, d2, d3, d4, d5] }
  | _ => none }
def sieveBackRow : OpenClaim := { program := "ytceaklefdahfkaa", sum := "a456dafc58223a13e35a8161c1402adea57033ea8345b00fd7e0bf4155f1a3bd", func := "graft/graftlaw5.SieveBack", spec := "sieveBack", inPlace := ["internal/bytealg.abigen_runtime_cmpstring", "internal/bytealg.IndexByte"], unfollowed := true, recurses := true, apart := false }
def SieveBackSaid : Prop := sieveBackRow.holds Try.pinned (OpenSpec.ofChange sieveBackSpec)

/-- ITS FALSE NEIGHBOUR: 'it returns false'. Refute it at one input. -/
def sieveBackWrong : ChangeSpec := { name := "sieveBack", fn := fun _ => fun
  | [d1, d2, d3, d4, d5] => { results := [.lit (.bool false)], args := [d1, d2, d3, d4, d5] }
  | _ => none }
def SieveBackWrongFalsely : Prop := sieveBackRow.holds Try.pinned (OpenSpec.ofChange sieveBackWrong)

/-- 'graftlaw5.SieveNil': WHATEVER THE INPUT: true; the input reads as it did. -/
def sieveNilSpec : ChangeSpec := { name := "sieveNil", fn := fun _ => fun
  | [] => { results := [.lit (.bool true)], args := [] }
  | _ => none }
def sieveNilRow : OpenClaim := { program := "ytceaklefdahfkaa", sum := "a456dafc58223a13e35a8161c1402adea57033ea8345b00fd7e0bf4155f1a3bd", func := "graft/graftlaw5.SieveNil", spec := "sieveNil", inPlace := ["internal/bytealg.abigen_runtime_cmpstring", "internal/bytealg.IndexByte", "internal/abi.NoEscape", "internal/bytealg.MakeNoZero"], unfollowed := true, recurses := true, apart := false }
def SieveNilSaid : Prop := sieveNilRow.holds Try.pinned (OpenSpec.ofChange sieveNilSpec)

/-- ITS FALSE NEIGHBOUR: 'it returns false'. Refute it at one input. -/
def sieveNilWrong : ChangeSpec := { name := "sieveNil", fn := fun _ => fun
  | [] => { results := [.lit (.bool false)], args := [] }
  | _ => none }
def SieveNilWrongFalsely : Prop := sieveNilRow.holds Try.pinned (OpenSpec.ofChange sieveNilWrong)

/-- 'graftlaw5.SieveBegins': WHATEVER THE INPUT: true; the input reads as it did. -/
def sieveBeginsSpec : ChangeSpec := { name := "sieveBegins", fn := fun _ => fun
  | [d1, d2] => { results := [.lit (.bool true)], args := [d1, d2] }
  | _ => none }
def sieveBeginsRow : OpenClaim := { program := "ytceaklefdahfkaa", sum := "a456dafc58223a13e35a8161c1402adea57033ea8345b00fd7e0bf4155f1a3bd", func := "graft/graftlaw5.SieveBegins", spec := "sieveBegins", inPlace := ["internal/bytealg.abigen_runtime_cmpstring", "internal/bytealg.IndexByte"], unfollowed := true, recurses := true, apart := false }
def SieveBeginsSaid : Prop := sieveBeginsRow.holds Try.pinned (OpenSpec.ofChange sieveBeginsSpec)

/-- ITS FALSE NEIGHBOUR: 'it returns false'. Refute it at one input. -/
def sieveBeginsWrong : ChangeSpec := { name := "sieveBegins", fn := fun _ => fun
  | [d1, d2] => { results := [.lit (.bool false)], args := [d1, d2] }
  | _ => none }
def SieveBeginsWrongFalsely : Prop := sieveBeginsRow.holds Try.pinned (OpenSpec.ofChange sieveBeginsWrong)

/-- 'graftlaw5.SieveCuts': WHATEVER THE INPUT: true; the input reads as it did. -/
def sieveCutsSpec : ChangeSpec := { name := "sieveCuts", fn := fun _ => fun
  | [d1, d2, d3, d4, d5] => { results := [.lit (.bool true)], args := [d1, d2, d3, d4, d5] }
  | _ => none }
def sieveCutsRow : OpenClaim := { program := "ytceaklefdahfkaa", sum := "a456dafc58223a13e35a8161c1402adea57033ea8345b00fd7e0bf4155f1a3bd", func := "graft/graftlaw5.SieveCuts", spec := "sieveCuts", inPlace := ["internal/bytealg.abigen_runtime_cmpstring", "internal/bytealg.IndexByte"], unfollowed := true, recurses := true, apart := false }
def SieveCutsSaid : Prop := sieveCutsRow.holds Try.pinned (OpenSpec.ofChange sieveCutsSpec)

/-- ITS FALSE NEIGHBOUR: 'it returns false'. Refute it at one input. -/
def sieveCutsWrong : ChangeSpec := { name := "sieveCuts", fn := fun _ => fun
  | [d1, d2, d3, d4, d5] => { results := [.lit (.bool false)], args := [d1, d2, d3, d4, d5] }
  | _ => none }
def SieveCutsWrongFalsely : Prop := sieveCutsRow.holds Try.pinned (OpenSpec.ofChange sieveCutsWrong)

/- THE SECOND FORM. 'bulk': how many values and letters a reading holds, each counted each time it is reached (what is shared counts as often as it is met; a slice's spare places count too). A statement '..UptoSaid' is the law's where the arguments, and the package variables that the reading takes, are together of bulk at most 1048576: NARROWER than '..Said'. Prove '..Said' where nothing that the law and all that it calls make is longer than what came in: it says more and counts as full. Else prove '..UptoSaid'. A law counts once. -/
mutual
def uptoBulk {H : Type} : DataW H → Nat
  | .lit (.string bytes) => bytes.length + 1
  | .lit _ => 1
  | .nil => 1
  | .ptr d => uptoBulk d + 1
  | .slice elems spare => uptoBulkAll elems + uptoBulkAll spare + 1
  | .agg parts => uptoBulkAll parts + 1
  | .iface _ d => uptoBulk d + 1
  | .map entries => uptoBulkEntries entries + 1
  | .held _ => 1
def uptoBulkAll {H : Type} : List (DataW H) → Nat
  | [] => 0
  | d :: r => uptoBulk d + uptoBulkAll r
def uptoBulkEntries {H : Type} : List (Lit × DataW H) → Nat
  | [] => 0
  | x :: r => uptoBulkEntry x + uptoBulkEntries r
def uptoBulkEntry {H : Type} : Lit × DataW H → Nat
  | (.string bytes, d) => bytes.length + uptoBulk d + 1
  | (_, d) => uptoBulk d + 1
 end
def uptoSmall : (H : Type) → List (DataW H) → Bool := fun _ ds => decide (uptoBulkAll ds ≤ 1048576)
def OpenSpec.upto (s : _root_.Go.ChangeSpec) : _root_.Go.OpenSpec := { _root_.Go.OpenSpec.ofChange s with cond := some uptoSmall }

/-- 'graftlaw5.SieveOverlaps', WHERE WHAT IT READS IS OF BULK AT MOST 1048576: true; the input reads as it did. -/
def sieveOverlapsUptoRow : OpenClaim := { program := "ytceaklefdahfkaa", sum := "a456dafc58223a13e35a8161c1402adea57033ea8345b00fd7e0bf4155f1a3bd", func := "graft/graftlaw5.SieveOverlaps", spec := "sieveOverlaps", apart := false, narrowed := true }
def SieveOverlapsUptoSaid : Prop := sieveOverlapsUptoRow.holds Try.pinned (OpenSpec.upto sieveOverlapsSpec)

/-- 'graftlaw5.SieveFinds', WHERE WHAT IT READS IS OF BULK AT MOST 1048576: true; the input reads as it did. -/
def sieveFindsUptoRow : OpenClaim := { program := "ytceaklefdahfkaa", sum := "a456dafc58223a13e35a8161c1402adea57033ea8345b00fd7e0bf4155f1a3bd", func := "graft/graftlaw5.SieveFinds", spec := "sieveFinds", inPlace := ["internal/bytealg.abigen_runtime_cmpstring", "internal/bytealg.IndexByte"], unfollowed := true, recurses := true, apart := false, narrowed := true }
def SieveFindsUptoSaid : Prop := sieveFindsUptoRow.holds Try.pinned (OpenSpec.upto sieveFindsSpec)

/-- 'graftlaw5.SieveBack', WHERE WHAT IT READS IS OF BULK AT MOST 1048576: true; the input reads as it did. -/
def sieveBackUptoRow : OpenClaim := { program := "ytceaklefdahfkaa", sum := "a456dafc58223a13e35a8161c1402adea57033ea8345b00fd7e0bf4155f1a3bd", func := "graft/graftlaw5.SieveBack", spec := "sieveBack", inPlace := ["internal/bytealg.abigen_runtime_cmpstring", "internal/bytealg.IndexByte"], unfollowed := true, recurses := true, apart := false, narrowed := true }
def SieveBackUptoSaid : Prop := sieveBackUptoRow.holds Try.pinned (OpenSpec.upto sieveBackSpec)

/-- 'graftlaw5.SieveNil', WHERE WHAT IT READS IS OF BULK AT MOST 1048576: true; the input reads as it did. -/
def sieveNilUptoRow : OpenClaim := { program := "ytceaklefdahfkaa", sum := "a456dafc58223a13e35a8161c1402adea57033ea8345b00fd7e0bf4155f1a3bd", func := "graft/graftlaw5.SieveNil", spec := "sieveNil", inPlace := ["internal/bytealg.abigen_runtime_cmpstring", "internal/bytealg.IndexByte", "internal/abi.NoEscape", "internal/bytealg.MakeNoZero"], unfollowed := true, recurses := true, apart := false, narrowed := true }
def SieveNilUptoSaid : Prop := sieveNilUptoRow.holds Try.pinned (OpenSpec.upto sieveNilSpec)

/-- 'graftlaw5.SieveBegins', WHERE WHAT IT READS IS OF BULK AT MOST 1048576: true; the input reads as it did. -/
def sieveBeginsUptoRow : OpenClaim := { program := "ytceaklefdahfkaa", sum := "a456dafc58223a13e35a8161c1402adea57033ea8345b00fd7e0bf4155f1a3bd", func := "graft/graftlaw5.SieveBegins", spec := "sieveBegins", inPlace := ["internal/bytealg.abigen_runtime_cmpstring", "internal/bytealg.IndexByte"], unfollowed := true, recurses := true, apart := false, narrowed := true }
def SieveBeginsUptoSaid : Prop := sieveBeginsUptoRow.holds Try.pinned (OpenSpec.upto sieveBeginsSpec)

/-- 'graftlaw5.SieveCuts', WHERE WHAT IT READS IS OF BULK AT MOST 1048576: true; the input reads as it did. -/
def sieveCutsUptoRow : OpenClaim := { program := "ytceaklefdahfkaa", sum := "a456dafc58223a13e35a8161c1402adea57033ea8345b00fd7e0bf4155f1a3bd", func := "graft/graftlaw5.SieveCuts", spec := "sieveCuts", inPlace := ["internal/bytealg.abigen_runtime_cmpstring", "internal/bytealg.IndexByte"], unfollowed := true, recurses := true, apart := false, narrowed := true }
def SieveCutsUptoSaid : Prop := sieveCutsUptoRow.holds Try.pinned (OpenSpec.upto sieveCutsSpec)

end Rows
end Go.Proofs.Ytceaklefdahfkaa
