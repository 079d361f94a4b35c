/-
  NARROWER THAN 'FOR EVERY INPUT', by the rows' own cells (each row's printed sentence says how): DigestTexts: laid · DigestBack: laid · DigestCanon: laid · DigestReads: laid · DigestLabels: laid · DigestSums: laid.
  DERIVED. THE GIVEN ROWS OF THIS SEAT. 6 by the template 'for every input the law returns true; each argument reads behind the call as it read before'; 0 by the template 'total and deterministic' (their statements: YtkppejaigodgiabDoorTotals.lean).
  GIVEN WITH THE SEED: the statements are not yours to turn. If you find one false, say at which input.
  Laid BY PROGRAM, IN A SANDBOX (cutbox-rows.mjs): the forced cells as the released guide's own fill.sh prints them over the translation da98a2202c523ef0… (all of the seat's roots in one cut). By AI agents, Wed Nov 11 2026. No macro, syntax, notation, axiom, sorry.
-/
import Derived.Test.YtkppejaigodgiabDoorChecked
import GoSem.Claim
import GoSem.ClaimJoined
import GoSem.ClaimMapViews
import Derived.JoinedTies
import Derived.KernelRfl
namespace Go.Proofs.YtkppejaigodgiabDoor
/- THE CELL 'sum', in the pinned program and in every row, IS THE sha256 OF THE DUMP (.gsa) THAT YtkppejaigodgiabDoorProg.lean LOADS. Nothing in Lean hashes anything: it is a label: what it is worth is what the hold of that sum in a sandbox is worth. -/
noncomputable def Tryd.pinned : Pinned := { name := "ytkppejaigodgiabdoor", sum := "da98a2202c523ef077c46b06e604a9f0cad168b35914e9c8998e56c9d4f1277b", checked := Tryd.checked }
namespace Rows
def none {H : Type} : Left H := { results := [], args := [] }

/- WHAT THE LISTED PACKAGE-LEVEL VARIABLES READ AS WHEN THE CALL BEGINS. Each datum BY PROGRAM (the guide's laid-datum.mjs) off the statement by which the dump's own 'gosem.cut.vars' lays the variable. In a bare row this is a premise. The card (YtkppejaigodgiabDoorCards.lean) ties it to the program's text. -/
def laid_graft_digest_digits16 {H : Type} : DataW H := .agg [.lit (.int .u8 48), .lit (.int .u8 49), .lit (.int .u8 50), .lit (.int .u8 51), .lit (.int .u8 52), .lit (.int .u8 53), .lit (.int .u8 54), .lit (.int .u8 55), .lit (.int .u8 56), .lit (.int .u8 57), .lit (.int .u8 97), .lit (.int .u8 98), .lit (.int .u8 99), .lit (.int .u8 100), .lit (.int .u8 101), .lit (.int .u8 102)]
def laid_graft_digest_digits32 {H : Type} : DataW H := .agg [.lit (.int .u8 48), .lit (.int .u8 49), .lit (.int .u8 50), .lit (.int .u8 51), .lit (.int .u8 52), .lit (.int .u8 53), .lit (.int .u8 54), .lit (.int .u8 55), .lit (.int .u8 56), .lit (.int .u8 57), .lit (.int .u8 97), .lit (.int .u8 98), .lit (.int .u8 99), .lit (.int .u8 100), .lit (.int .u8 102), .lit (.int .u8 103), .lit (.int .u8 104), .lit (.int .u8 105), .lit (.int .u8 106), .lit (.int .u8 107), .lit (.int .u8 108), .lit (.int .u8 109), .lit (.int .u8 110), .lit (.int .u8 112), .lit (.int .u8 113), .lit (.int .u8 114), .lit (.int .u8 115), .lit (.int .u8 118), .lit (.int .u8 119), .lit (.int .u8 120), .lit (.int .u8 121), .lit (.int .u8 122)]
def laid_graft_digest_digits64 {H : Type} : DataW H := .agg [.lit (.int .u8 65), .lit (.int .u8 66), .lit (.int .u8 67), .lit (.int .u8 68), .lit (.int .u8 69), .lit (.int .u8 70), .lit (.int .u8 71), .lit (.int .u8 72), .lit (.int .u8 73), .lit (.int .u8 74), .lit (.int .u8 75), .lit (.int .u8 76), .lit (.int .u8 77), .lit (.int .u8 78), .lit (.int .u8 79), .lit (.int .u8 80), .lit (.int .u8 81), .lit (.int .u8 82), .lit (.int .u8 83), .lit (.int .u8 84), .lit (.int .u8 85), .lit (.int .u8 86), .lit (.int .u8 87), .lit (.int .u8 88), .lit (.int .u8 89), .lit (.int .u8 90), .lit (.int .u8 97), .lit (.int .u8 98), .lit (.int .u8 99), .lit (.int .u8 100), .lit (.int .u8 101), .lit (.int .u8 102), .lit (.int .u8 103), .lit (.int .u8 104), .lit (.int .u8 105), .lit (.int .u8 106), .lit (.int .u8 107), .lit (.int .u8 108), .lit (.int .u8 109), .lit (.int .u8 110), .lit (.int .u8 111), .lit (.int .u8 112), .lit (.int .u8 113), .lit (.int .u8 114), .lit (.int .u8 115), .lit (.int .u8 116), .lit (.int .u8 117), .lit (.int .u8 118), .lit (.int .u8 119), .lit (.int .u8 120), .lit (.int .u8 121), .lit (.int .u8 122), .lit (.int .u8 48), .lit (.int .u8 49), .lit (.int .u8 50), .lit (.int .u8 51), .lit (.int .u8 52), .lit (.int .u8 53), .lit (.int .u8 54), .lit (.int .u8 55), .lit (.int .u8 56), .lit (.int .u8 57), .lit (.int .u8 43), .lit (.int .u8 47)]
def laid_graft_digest_startState {H : Type} : DataW H := .agg [.lit (.int .u32 1779033703), .lit (.int .u32 3144134277), .lit (.int .u32 1013904242), .lit (.int .u32 2773480762), .lit (.int .u32 1359893119), .lit (.int .u32 2600822924), .lit (.int .u32 528734635), .lit (.int .u32 1541459225)]
def laid_graft_digest_roundConstants {H : Type} : DataW H := .agg [.lit (.int .u32 1116352408), .lit (.int .u32 1899447441), .lit (.int .u32 3049323471), .lit (.int .u32 3921009573), .lit (.int .u32 961987163), .lit (.int .u32 1508970993), .lit (.int .u32 2453635748), .lit (.int .u32 2870763221), .lit (.int .u32 3624381080), .lit (.int .u32 310598401), .lit (.int .u32 607225278), .lit (.int .u32 1426881987), .lit (.int .u32 1925078388), .lit (.int .u32 2162078206), .lit (.int .u32 2614888103), .lit (.int .u32 3248222580), .lit (.int .u32 3835390401), .lit (.int .u32 4022224774), .lit (.int .u32 264347078), .lit (.int .u32 604807628), .lit (.int .u32 770255983), .lit (.int .u32 1249150122), .lit (.int .u32 1555081692), .lit (.int .u32 1996064986), .lit (.int .u32 2554220882), .lit (.int .u32 2821834349), .lit (.int .u32 2952996808), .lit (.int .u32 3210313671), .lit (.int .u32 3336571891), .lit (.int .u32 3584528711), .lit (.int .u32 113926993), .lit (.int .u32 338241895), .lit (.int .u32 666307205), .lit (.int .u32 773529912), .lit (.int .u32 1294757372), .lit (.int .u32 1396182291), .lit (.int .u32 1695183700), .lit (.int .u32 1986661051), .lit (.int .u32 2177026350), .lit (.int .u32 2456956037), .lit (.int .u32 2730485921), .lit (.int .u32 2820302411), .lit (.int .u32 3259730800), .lit (.int .u32 3345764771), .lit (.int .u32 3516065817), .lit (.int .u32 3600352804), .lit (.int .u32 4094571909), .lit (.int .u32 275423344), .lit (.int .u32 430227734), .lit (.int .u32 506948616), .lit (.int .u32 659060556), .lit (.int .u32 883997877), .lit (.int .u32 958139571), .lit (.int .u32 1322822218), .lit (.int .u32 1537002063), .lit (.int .u32 1747873779), .lit (.int .u32 1955562222), .lit (.int .u32 2024104815), .lit (.int .u32 2227730452), .lit (.int .u32 2361852424), .lit (.int .u32 2428436474), .lit (.int .u32 2756734187), .lit (.int .u32 3204031479), .lit (.int .u32 3329325298)]
def laid_graft_graftref1_tableK {H : Type} : DataW H := .agg [.lit (.int .u32 1116352408), .lit (.int .u32 1899447441), .lit (.int .u32 3049323471), .lit (.int .u32 3921009573), .lit (.int .u32 961987163), .lit (.int .u32 1508970993), .lit (.int .u32 2453635748), .lit (.int .u32 2870763221), .lit (.int .u32 3624381080), .lit (.int .u32 310598401), .lit (.int .u32 607225278), .lit (.int .u32 1426881987), .lit (.int .u32 1925078388), .lit (.int .u32 2162078206), .lit (.int .u32 2614888103), .lit (.int .u32 3248222580), .lit (.int .u32 3835390401), .lit (.int .u32 4022224774), .lit (.int .u32 264347078), .lit (.int .u32 604807628), .lit (.int .u32 770255983), .lit (.int .u32 1249150122), .lit (.int .u32 1555081692), .lit (.int .u32 1996064986), .lit (.int .u32 2554220882), .lit (.int .u32 2821834349), .lit (.int .u32 2952996808), .lit (.int .u32 3210313671), .lit (.int .u32 3336571891), .lit (.int .u32 3584528711), .lit (.int .u32 113926993), .lit (.int .u32 338241895), .lit (.int .u32 666307205), .lit (.int .u32 773529912), .lit (.int .u32 1294757372), .lit (.int .u32 1396182291), .lit (.int .u32 1695183700), .lit (.int .u32 1986661051), .lit (.int .u32 2177026350), .lit (.int .u32 2456956037), .lit (.int .u32 2730485921), .lit (.int .u32 2820302411), .lit (.int .u32 3259730800), .lit (.int .u32 3345764771), .lit (.int .u32 3516065817), .lit (.int .u32 3600352804), .lit (.int .u32 4094571909), .lit (.int .u32 275423344), .lit (.int .u32 430227734), .lit (.int .u32 506948616), .lit (.int .u32 659060556), .lit (.int .u32 883997877), .lit (.int .u32 958139571), .lit (.int .u32 1322822218), .lit (.int .u32 1537002063), .lit (.int .u32 1747873779), .lit (.int .u32 1955562222), .lit (.int .u32 2024104815), .lit (.int .u32 2227730452), .lit (.int .u32 2361852424), .lit (.int .u32 2428436474), .lit (.int .u32 2756734187), .lit (.int .u32 3204031479), .lit (.int .u32 3329325298)]
def laid_graft_graftref1_tableH {H : Type} : DataW H := .agg [.lit (.int .u32 1779033703), .lit (.int .u32 3144134277), .lit (.int .u32 1013904242), .lit (.int .u32 2773480762), .lit (.int .u32 1359893119), .lit (.int .u32 2600822924), .lit (.int .u32 528734635), .lit (.int .u32 1541459225)]

/-- 'graftlaw1.DigestTexts': WHATEVER THE INPUT: true; the input reads as it did. -/
def digestTextsSpec : ChangeSpec := { name := "digestTexts", fn := fun _ => fun
  | [d1, d2, d3] => { results := [.lit (.bool true)], args := [d1, d2, d3] }
  | _ => none }
def digestTextsRow : OpenClaim := { program := "ytkppejaigodgiabdoor", sum := "da98a2202c523ef077c46b06e604a9f0cad168b35914e9c8998e56c9d4f1277b", func := "graft/graftlaw1.DigestTexts", spec := "digestTexts", named := ["graft/digest.digits16", "graft/digest.digits32", "graft/digest.digits64"], apart := false, laid := [("graft/digest.digits16", laid_graft_digest_digits16), ("graft/digest.digits32", laid_graft_digest_digits32), ("graft/digest.digits64", laid_graft_digest_digits64)] }
def DigestTextsSaid : Prop := digestTextsRow.holds Tryd.pinned (OpenSpec.ofChange digestTextsSpec)

/-- ITS FALSE NEIGHBOUR: 'it returns false'. Refute it at one input. -/
def digestTextsWrong : ChangeSpec := { name := "digestTexts", fn := fun _ => fun
  | [d1, d2, d3] => { results := [.lit (.bool false)], args := [d1, d2, d3] }
  | _ => none }
def DigestTextsWrongFalsely : Prop := digestTextsRow.holds Tryd.pinned (OpenSpec.ofChange digestTextsWrong)

/-- 'graftlaw1.DigestBack': WHATEVER THE INPUT: true; the input reads as it did. -/
def digestBackSpec : ChangeSpec := { name := "digestBack", fn := fun _ => fun
  | [d] => { results := [.lit (.bool true)], args := [d] }
  | _ => none }
def digestBackRow : OpenClaim := { program := "ytkppejaigodgiabdoor", sum := "da98a2202c523ef077c46b06e604a9f0cad168b35914e9c8998e56c9d4f1277b", func := "graft/graftlaw1.DigestBack", spec := "digestBack", named := ["graft/digest.digits16", "graft/digest.digits32", "graft/digest.digits64"], apart := false, laid := [("graft/digest.digits16", laid_graft_digest_digits16), ("graft/digest.digits32", laid_graft_digest_digits32), ("graft/digest.digits64", laid_graft_digest_digits64)] }
def DigestBackSaid : Prop := digestBackRow.holds Tryd.pinned (OpenSpec.ofChange digestBackSpec)

/-- ITS FALSE NEIGHBOUR: 'it returns false'. Refute it at one input. -/
def digestBackWrong : ChangeSpec := { name := "digestBack", fn := fun _ => fun
  | [d] => { results := [.lit (.bool false)], args := [d] }
  | _ => none }
def DigestBackWrongFalsely : Prop := digestBackRow.holds Tryd.pinned (OpenSpec.ofChange digestBackWrong)

/-- 'graftlaw1.DigestCanon': WHATEVER THE INPUT: true; the input reads as it did. -/
def digestCanonSpec : ChangeSpec := { name := "digestCanon", fn := fun _ => fun
  | [d1, d2, d3] => { results := [.lit (.bool true)], args := [d1, d2, d3] }
  | _ => none }
def digestCanonRow : OpenClaim := { program := "ytkppejaigodgiabdoor", sum := "da98a2202c523ef077c46b06e604a9f0cad168b35914e9c8998e56c9d4f1277b", func := "graft/graftlaw1.DigestCanon", spec := "digestCanon", named := ["graft/digest.digits16", "graft/digest.digits32", "graft/digest.digits64"], apart := false, laid := [("graft/digest.digits16", laid_graft_digest_digits16), ("graft/digest.digits32", laid_graft_digest_digits32), ("graft/digest.digits64", laid_graft_digest_digits64)] }
def DigestCanonSaid : Prop := digestCanonRow.holds Tryd.pinned (OpenSpec.ofChange digestCanonSpec)

/-- ITS FALSE NEIGHBOUR: 'it returns false'. Refute it at one input. -/
def digestCanonWrong : ChangeSpec := { name := "digestCanon", fn := fun _ => fun
  | [d1, d2, d3] => { results := [.lit (.bool false)], args := [d1, d2, d3] }
  | _ => none }
def DigestCanonWrongFalsely : Prop := digestCanonRow.holds Tryd.pinned (OpenSpec.ofChange digestCanonWrong)

/-- 'graftlaw1.DigestReads': WHATEVER THE INPUT: true; the input reads as it did. -/
def digestReadsSpec : ChangeSpec := { name := "digestReads", fn := fun _ => fun
  | [d] => { results := [.lit (.bool true)], args := [d] }
  | _ => none }
def digestReadsRow : OpenClaim := { program := "ytkppejaigodgiabdoor", sum := "da98a2202c523ef077c46b06e604a9f0cad168b35914e9c8998e56c9d4f1277b", func := "graft/graftlaw1.DigestReads", spec := "digestReads", named := ["graft/digest.digits16", "graft/digest.digits32", "graft/digest.digits64"], apart := false, laid := [("graft/digest.digits16", laid_graft_digest_digits16), ("graft/digest.digits32", laid_graft_digest_digits32), ("graft/digest.digits64", laid_graft_digest_digits64)] }
def DigestReadsSaid : Prop := digestReadsRow.holds Tryd.pinned (OpenSpec.ofChange digestReadsSpec)

/-- ITS FALSE NEIGHBOUR: 'it returns false'. Refute it at one input. -/
def digestReadsWrong : ChangeSpec := { name := "digestReads", fn := fun _ => fun
  | [d] => { results := [.lit (.bool false)], args := [d] }
  | _ => none }
def DigestReadsWrongFalsely : Prop := digestReadsRow.holds Tryd.pinned (OpenSpec.ofChange digestReadsWrong)

/-- 'graftlaw1.DigestLabels': WHATEVER THE INPUT: true; the input reads as it did. -/
def digestLabelsSpec : ChangeSpec := { name := "digestLabels", fn := fun _ => fun
  | [d1, d2, d3, d4] => { results := [.lit (.bool true)], args := [d1, d2, d3, d4] }
  | _ => none }
def digestLabelsRow : OpenClaim := { program := "ytkppejaigodgiabdoor", sum := "da98a2202c523ef077c46b06e604a9f0cad168b35914e9c8998e56c9d4f1277b", func := "graft/graftlaw1.DigestLabels", spec := "digestLabels", named := ["graft/digest.startState", "graft/digest.roundConstants", "graft/digest.digits32", "graft/digest.digits16", "graft/digest.digits64"], apart := false, laid := [("graft/digest.digits16", laid_graft_digest_digits16), ("graft/digest.digits32", laid_graft_digest_digits32), ("graft/digest.digits64", laid_graft_digest_digits64), ("graft/digest.startState", laid_graft_digest_startState), ("graft/digest.roundConstants", laid_graft_digest_roundConstants)] }
def DigestLabelsSaid : Prop := digestLabelsRow.holds Tryd.pinned (OpenSpec.ofChange digestLabelsSpec)

/-- ITS FALSE NEIGHBOUR: 'it returns false'. Refute it at one input. -/
def digestLabelsWrong : ChangeSpec := { name := "digestLabels", fn := fun _ => fun
  | [d1, d2, d3, d4] => { results := [.lit (.bool false)], args := [d1, d2, d3, d4] }
  | _ => none }
def DigestLabelsWrongFalsely : Prop := digestLabelsRow.holds Tryd.pinned (OpenSpec.ofChange digestLabelsWrong)

/-- 'graftlaw1.DigestSums': WHATEVER THE INPUT: true; the input reads as it did. -/
def digestSumsSpec : ChangeSpec := { name := "digestSums", fn := fun _ => fun
  | [d] => { results := [.lit (.bool true)], args := [d] }
  | _ => none }
def digestSumsRow : OpenClaim := { program := "ytkppejaigodgiabdoor", sum := "da98a2202c523ef077c46b06e604a9f0cad168b35914e9c8998e56c9d4f1277b", func := "graft/graftlaw1.DigestSums", spec := "digestSums", named := ["graft/digest.startState", "graft/digest.roundConstants", "graft/graftref1.tableH", "graft/graftref1.tableK"], apart := false, laid := [("graft/graftref1.tableK", laid_graft_graftref1_tableK), ("graft/graftref1.tableH", laid_graft_graftref1_tableH), ("graft/digest.startState", laid_graft_digest_startState), ("graft/digest.roundConstants", laid_graft_digest_roundConstants)] }
def DigestSumsSaid : Prop := digestSumsRow.holds Tryd.pinned (OpenSpec.ofChange digestSumsSpec)

/-- ITS FALSE NEIGHBOUR: 'it returns false'. Refute it at one input. -/
def digestSumsWrong : ChangeSpec := { name := "digestSums", fn := fun _ => fun
  | [d] => { results := [.lit (.bool false)], args := [d] }
  | _ => none }
def DigestSumsWrongFalsely : Prop := digestSumsRow.holds Tryd.pinned (OpenSpec.ofChange digestSumsWrong)

/- THE SECOND FORM. 'bulk': how many values and letters a reading holds, each counted each time it is reached (what is shared counts as often as it is met; a slice's spare places count too). A statement '..UptoSaid' is the law's where the arguments, and the package variables that the reading takes, are together of bulk at most 1048576: NARROWER than '..Said'. Prove '..Said' where nothing that the law and all that it calls make is longer than what came in: it says more and counts as full. Else prove '..UptoSaid'. A law counts once. -/
mutual
def uptoBulk {H : Type} : DataW H → Nat
  | .lit (.string bytes) => bytes.length + 1
  | .lit _ => 1
  | .nil => 1
  | .ptr d => uptoBulk d + 1
  | .slice elems spare => uptoBulkAll elems + uptoBulkAll spare + 1
  | .agg parts => uptoBulkAll parts + 1
  | .iface _ d => uptoBulk d + 1
  | .map entries => uptoBulkEntries entries + 1
  | .held _ => 1
def uptoBulkAll {H : Type} : List (DataW H) → Nat
  | [] => 0
  | d :: r => uptoBulk d + uptoBulkAll r
def uptoBulkEntries {H : Type} : List (Lit × DataW H) → Nat
  | [] => 0
  | x :: r => uptoBulkEntry x + uptoBulkEntries r
def uptoBulkEntry {H : Type} : Lit × DataW H → Nat
  | (.string bytes, d) => bytes.length + uptoBulk d + 1
  | (_, d) => uptoBulk d + 1
 end
def uptoSmall : (H : Type) → List (DataW H) → Bool := fun _ ds => decide (uptoBulkAll ds ≤ 1048576)
def OpenSpec.upto (s : _root_.Go.ChangeSpec) : _root_.Go.OpenSpec := { _root_.Go.OpenSpec.ofChange s with cond := some uptoSmall }

/-- 'graftlaw1.DigestTexts', WHERE WHAT IT READS IS OF BULK AT MOST 1048576: true; the input reads as it did. -/
def digestTextsUptoRow : OpenClaim := { program := "ytkppejaigodgiabdoor", sum := "da98a2202c523ef077c46b06e604a9f0cad168b35914e9c8998e56c9d4f1277b", func := "graft/graftlaw1.DigestTexts", spec := "digestTexts", named := ["graft/digest.digits16", "graft/digest.digits32", "graft/digest.digits64"], apart := false, laid := [("graft/digest.digits16", laid_graft_digest_digits16), ("graft/digest.digits32", laid_graft_digest_digits32), ("graft/digest.digits64", laid_graft_digest_digits64)], narrowed := true }
def DigestTextsUptoSaid : Prop := digestTextsUptoRow.holds Tryd.pinned (OpenSpec.upto digestTextsSpec)

/-- 'graftlaw1.DigestBack', WHERE WHAT IT READS IS OF BULK AT MOST 1048576: true; the input reads as it did. -/
def digestBackUptoRow : OpenClaim := { program := "ytkppejaigodgiabdoor", sum := "da98a2202c523ef077c46b06e604a9f0cad168b35914e9c8998e56c9d4f1277b", func := "graft/graftlaw1.DigestBack", spec := "digestBack", named := ["graft/digest.digits16", "graft/digest.digits32", "graft/digest.digits64"], apart := false, laid := [("graft/digest.digits16", laid_graft_digest_digits16), ("graft/digest.digits32", laid_graft_digest_digits32), ("graft/digest.digits64", laid_graft_digest_digits64)], narrowed := true }
def DigestBackUptoSaid : Prop := digestBackUptoRow.holds Tryd.pinned (OpenSpec.upto digestBackSpec)

/-- 'graftlaw1.DigestCanon', WHERE WHAT IT READS IS OF BULK AT MOST 1048576: true; the input reads as it did. -/
def digestCanonUptoRow : OpenClaim := { program := "ytkppejaigodgiabdoor", sum := "da98a2202c523ef077c46b06e604a9f0cad168b35914e9c8998e56c9d4f1277b", func := "graft/graftlaw1.DigestCanon", spec := "digestCanon", named := ["graft/digest.digits16", "graft/digest.digits32", "graft/digest.digits64"], apart := false, laid := [("graft/digest.digits16", laid_graft_digest_digits16), ("graft/digest.digits32", laid_graft_digest_digits32), ("graft/digest.digits64", laid_graft_digest_digits64)], narrowed := true }
def DigestCanonUptoSaid : Prop := digestCanonUptoRow.holds Tryd.pinned (OpenSpec.upto digestCanonSpec)

/-- 'graftlaw1.DigestReads', WHERE WHAT IT READS IS OF BULK AT MOST 1048576: true; the input reads as it did. -/
def digestReadsUptoRow : OpenClaim := { program := "ytkppejaigodgiabdoor", sum := "da98a2202c523ef077c46b06e604a9f0cad168b35914e9c8998e56c9d4f1277b", func := "graft/graftlaw1.DigestReads", spec := "digestReads", named := ["graft/digest.digits16", "graft/digest.digits32", "graft/digest.digits64"], apart := false, laid := [("graft/digest.digits16", laid_graft_digest_digits16), ("graft/digest.digits32", laid_graft_digest_digits32), ("graft/digest.digits64", laid_graft_digest_digits64)], narrowed := true }
def DigestReadsUptoSaid : Prop := digestReadsUptoRow.holds Tryd.pinned (OpenSpec.upto digestReadsSpec)

/-- 'graftlaw1.DigestLabels', WHERE WHAT IT READS IS OF BULK AT MOST 1048576: true; the input reads as it did. -/
def digestLabelsUptoRow : OpenClaim := { program := "ytkppejaigodgiabdoor", sum := "da98a2202c523ef077c46b06e604a9f0cad168b35914e9c8998e56c9d4f1277b", func := "graft/graftlaw1.DigestLabels", spec := "digestLabels", named := ["graft/digest.startState", "graft/digest.roundConstants", "graft/digest.digits32", "graft/digest.digits16", "graft/digest.digits64"], apart := false, laid := [("graft/digest.digits16", laid_graft_digest_digits16), ("graft/digest.digits32", laid_graft_digest_digits32), ("graft/digest.digits64", laid_graft_digest_digits64), ("graft/digest.startState", laid_graft_digest_startState), ("graft/digest.roundConstants", laid_graft_digest_roundConstants)], narrowed := true }
def DigestLabelsUptoSaid : Prop := digestLabelsUptoRow.holds Tryd.pinned (OpenSpec.upto digestLabelsSpec)

/-- 'graftlaw1.DigestSums', WHERE WHAT IT READS IS OF BULK AT MOST 1048576: true; the input reads as it did. -/
def digestSumsUptoRow : OpenClaim := { program := "ytkppejaigodgiabdoor", sum := "da98a2202c523ef077c46b06e604a9f0cad168b35914e9c8998e56c9d4f1277b", func := "graft/graftlaw1.DigestSums", spec := "digestSums", named := ["graft/digest.startState", "graft/digest.roundConstants", "graft/graftref1.tableH", "graft/graftref1.tableK"], apart := false, laid := [("graft/graftref1.tableK", laid_graft_graftref1_tableK), ("graft/graftref1.tableH", laid_graft_graftref1_tableH), ("graft/digest.startState", laid_graft_digest_startState), ("graft/digest.roundConstants", laid_graft_digest_roundConstants)], narrowed := true }
def DigestSumsUptoSaid : Prop := digestSumsUptoRow.holds Tryd.pinned (OpenSpec.upto digestSumsSpec)

end Rows
end Go.Proofs.YtkppejaigodgiabDoor
