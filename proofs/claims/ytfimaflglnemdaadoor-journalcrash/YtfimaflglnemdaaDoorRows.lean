/-
  NARROWER THAN 'FOR EVERY INPUT', by the rows' own cells (each row's printed sentence says how): JournalCrash: laid · JournalEach: laid · JournalAgain: laid · JournalNil: laid · JournalFresh: laid.
  DERIVED. THE GIVEN ROWS OF THIS SEAT. 5 by the template 'for every input the law returns true; each argument reads behind the call as it read before'; 0 by the template 'total and deterministic' (their statements: YtfimaflglnemdaaDoorTotals.lean).
  GIVEN WITH THE SEED: the statements are not yours to turn. If you find one false, say at which input.
  Laid BY PROGRAM, IN A SANDBOX (cutbox-rows.mjs): the forced cells as the released guide's own fill.sh prints them over the translation 22f1f4b24da8fdb7… (all of the seat's roots in one cut). By AI agents, Wed Nov 11 2026. No macro, syntax, notation, axiom, sorry.
-/
import Derived.Test.YtfimaflglnemdaaDoorChecked
import GoSem.Claim
import GoSem.ClaimJoined
import GoSem.ClaimMapViews
import Derived.JoinedTies
import Derived.KernelRfl
namespace Go.Proofs.YtfimaflglnemdaaDoor
/- THE CELL 'sum', in the pinned program and in every row, IS THE sha256 OF THE DUMP (.gsa) THAT YtfimaflglnemdaaDoorProg.lean LOADS. Nothing in Lean hashes anything: it is a label: what it is worth is what the hold of that sum in a sandbox is worth. -/
noncomputable def Tryd.pinned : Pinned := { name := "ytfimaflglnemdaadoor", sum := "22f1f4b24da8fdb71f15c4e1183760e04b3b1fb298362d68040d00a849a71ce5", checked := Tryd.checked }
namespace Rows
def none {H : Type} : Left H := { results := [], args := [] }

/- WHAT THE LISTED PACKAGE-LEVEL VARIABLES READ AS WHEN THE CALL BEGINS. Each datum BY PROGRAM (the guide's laid-datum.mjs) off the statement by which the dump's own 'gosem.cut.vars' lays the variable. In a bare row this is a premise. The card (YtfimaflglnemdaaDoorCards.lean) ties it to the program's text. -/
def laid_graft_press_crcRows {H : Type} : DataW H := .agg [.lit (.int .u32 0), .lit (.int .u32 498536548), .lit (.int .u32 997073096), .lit (.int .u32 651767980), .lit (.int .u32 1994146192), .lit (.int .u32 1802195444), .lit (.int .u32 1303535960), .lit (.int .u32 1342533948), .lit (.int .u32 3988292384), .lit (.int .u32 4027552580), .lit (.int .u32 3604390888), .lit (.int .u32 3412177804), .lit (.int .u32 2607071920), .lit (.int .u32 2262029012), .lit (.int .u32 2685067896), .lit (.int .u32 3183342108)]

/-- 'graftlaw11.JournalCrash': WHATEVER THE INPUT: true; the input reads as it did. -/
def journalCrashSpec : ChangeSpec := { name := "journalCrash", fn := fun _ => fun
  | [d] => { results := [.lit (.bool true)], args := [d] }
  | _ => none }
def journalCrashRow : OpenClaim := { program := "ytfimaflglnemdaadoor", sum := "22f1f4b24da8fdb71f15c4e1183760e04b3b1fb298362d68040d00a849a71ce5", func := "graft/graftlaw11.JournalCrash", spec := "journalCrash", unfollowed := true, recurses := true, named := ["graft/press.crcRows"], apart := false, laid := [("graft/press.crcRows", laid_graft_press_crcRows)] }
def JournalCrashSaid : Prop := journalCrashRow.holds Tryd.pinned (OpenSpec.ofChange journalCrashSpec)

/-- ITS FALSE NEIGHBOUR: 'it returns false'. Refute it at one input. -/
def journalCrashWrong : ChangeSpec := { name := "journalCrash", fn := fun _ => fun
  | [d] => { results := [.lit (.bool false)], args := [d] }
  | _ => none }
def JournalCrashWrongFalsely : Prop := journalCrashRow.holds Tryd.pinned (OpenSpec.ofChange journalCrashWrong)

/-- 'graftlaw11.JournalEach': WHATEVER THE INPUT: true; the input reads as it did. -/
def journalEachSpec : ChangeSpec := { name := "journalEach", fn := fun _ => fun
  | [d1, d2] => { results := [.lit (.bool true)], args := [d1, d2] }
  | _ => none }
def journalEachRow : OpenClaim := { program := "ytfimaflglnemdaadoor", sum := "22f1f4b24da8fdb71f15c4e1183760e04b3b1fb298362d68040d00a849a71ce5", func := "graft/graftlaw11.JournalEach", spec := "journalEach", unfollowed := true, recurses := true, named := ["graft/press.crcRows"], apart := false, laid := [("graft/press.crcRows", laid_graft_press_crcRows)] }
def JournalEachSaid : Prop := journalEachRow.holds Tryd.pinned (OpenSpec.ofChange journalEachSpec)

/-- ITS FALSE NEIGHBOUR: 'it returns false'. Refute it at one input. -/
def journalEachWrong : ChangeSpec := { name := "journalEach", fn := fun _ => fun
  | [d1, d2] => { results := [.lit (.bool false)], args := [d1, d2] }
  | _ => none }
def JournalEachWrongFalsely : Prop := journalEachRow.holds Tryd.pinned (OpenSpec.ofChange journalEachWrong)

/-- 'graftlaw11.JournalAgain': WHATEVER THE INPUT: true; the input reads as it did. -/
def journalAgainSpec : ChangeSpec := { name := "journalAgain", fn := fun _ => fun
  | [d1, d2] => { results := [.lit (.bool true)], args := [d1, d2] }
  | _ => none }
def journalAgainRow : OpenClaim := { program := "ytfimaflglnemdaadoor", sum := "22f1f4b24da8fdb71f15c4e1183760e04b3b1fb298362d68040d00a849a71ce5", func := "graft/graftlaw11.JournalAgain", spec := "journalAgain", unfollowed := true, recurses := true, named := ["graft/press.crcRows"], apart := false, laid := [("graft/press.crcRows", laid_graft_press_crcRows)] }
def JournalAgainSaid : Prop := journalAgainRow.holds Tryd.pinned (OpenSpec.ofChange journalAgainSpec)

/-- ITS FALSE NEIGHBOUR: 'it returns false'. Refute it at one input. -/
def journalAgainWrong : ChangeSpec := { name := "journalAgain", fn := fun _ => fun
  | [d1, d2] => { results := [.lit (.bool false)], args := [d1, d2] }
  | _ => none }
def JournalAgainWrongFalsely : Prop := journalAgainRow.holds Tryd.pinned (OpenSpec.ofChange journalAgainWrong)

/-- 'graftlaw11.JournalNil': WHATEVER THE INPUT: true; the input reads as it did. -/
def journalNilSpec : ChangeSpec := { name := "journalNil", fn := fun _ => fun
  | [] => { results := [.lit (.bool true)], args := [] }
  | _ => none }
def journalNilRow : OpenClaim := { program := "ytfimaflglnemdaadoor", sum := "22f1f4b24da8fdb71f15c4e1183760e04b3b1fb298362d68040d00a849a71ce5", func := "graft/graftlaw11.JournalNil", spec := "journalNil", unfollowed := true, recurses := true, named := ["graft/press.crcRows"], apart := false, laid := [("graft/press.crcRows", laid_graft_press_crcRows)] }
def JournalNilSaid : Prop := journalNilRow.holds Tryd.pinned (OpenSpec.ofChange journalNilSpec)

/-- ITS FALSE NEIGHBOUR: 'it returns false'. Refute it at one input. -/
def journalNilWrong : ChangeSpec := { name := "journalNil", fn := fun _ => fun
  | [] => { results := [.lit (.bool false)], args := [] }
  | _ => none }
def JournalNilWrongFalsely : Prop := journalNilRow.holds Tryd.pinned (OpenSpec.ofChange journalNilWrong)

/-- 'graftlaw11.JournalFresh': WHATEVER THE INPUT: true; the input reads as it did. -/
def journalFreshSpec : ChangeSpec := { name := "journalFresh", fn := fun _ => fun
  | [d] => { results := [.lit (.bool true)], args := [d] }
  | _ => none }
def journalFreshRow : OpenClaim := { program := "ytfimaflglnemdaadoor", sum := "22f1f4b24da8fdb71f15c4e1183760e04b3b1fb298362d68040d00a849a71ce5", func := "graft/graftlaw11.JournalFresh", spec := "journalFresh", unfollowed := true, recurses := true, named := ["graft/press.crcRows"], apart := false, laid := [("graft/press.crcRows", laid_graft_press_crcRows)] }
def JournalFreshSaid : Prop := journalFreshRow.holds Tryd.pinned (OpenSpec.ofChange journalFreshSpec)

/-- ITS FALSE NEIGHBOUR: 'it returns false'. Refute it at one input. -/
def journalFreshWrong : ChangeSpec := { name := "journalFresh", fn := fun _ => fun
  | [d] => { results := [.lit (.bool false)], args := [d] }
  | _ => none }
def JournalFreshWrongFalsely : Prop := journalFreshRow.holds Tryd.pinned (OpenSpec.ofChange journalFreshWrong)

/- THE SECOND FORM. 'bulk': how many values and letters a reading holds, each counted each time it is reached (what is shared counts as often as it is met; a slice's spare places count too). A statement '..UptoSaid' is the law's where the arguments, and the package variables that the reading takes, are together of bulk at most 1048576: NARROWER than '..Said'. Prove '..Said' where nothing that the law and all that it calls make is longer than what came in: it says more and counts as full. Else prove '..UptoSaid'. A law counts once. -/
mutual
def uptoBulk {H : Type} : DataW H → Nat
  | .lit (.string bytes) => bytes.length + 1
  | .lit _ => 1
  | .nil => 1
  | .ptr d => uptoBulk d + 1
  | .slice elems spare => uptoBulkAll elems + uptoBulkAll spare + 1
  | .agg parts => uptoBulkAll parts + 1
  | .iface _ d => uptoBulk d + 1
  | .map entries => uptoBulkEntries entries + 1
  | .held _ => 1
def uptoBulkAll {H : Type} : List (DataW H) → Nat
  | [] => 0
  | d :: r => uptoBulk d + uptoBulkAll r
def uptoBulkEntries {H : Type} : List (Lit × DataW H) → Nat
  | [] => 0
  | x :: r => uptoBulkEntry x + uptoBulkEntries r
def uptoBulkEntry {H : Type} : Lit × DataW H → Nat
  | (.string bytes, d) => bytes.length + uptoBulk d + 1
  | (_, d) => uptoBulk d + 1
 end
def uptoSmall : (H : Type) → List (DataW H) → Bool := fun _ ds => decide (uptoBulkAll ds ≤ 1048576)
def OpenSpec.upto (s : _root_.Go.ChangeSpec) : _root_.Go.OpenSpec := { _root_.Go.OpenSpec.ofChange s with cond := some uptoSmall }

/-- 'graftlaw11.JournalCrash', WHERE WHAT IT READS IS OF BULK AT MOST 1048576: true; the input reads as it did. -/
def journalCrashUptoRow : OpenClaim := { program := "ytfimaflglnemdaadoor", sum := "22f1f4b24da8fdb71f15c4e1183760e04b3b1fb298362d68040d00a849a71ce5", func := "graft/graftlaw11.JournalCrash", spec := "journalCrash", unfollowed := true, recurses := true, named := ["graft/press.crcRows"], apart := false, laid := [("graft/press.crcRows", laid_graft_press_crcRows)], narrowed := true }
def JournalCrashUptoSaid : Prop := journalCrashUptoRow.holds Tryd.pinned (OpenSpec.upto journalCrashSpec)

/-- 'graftlaw11.JournalEach', WHERE WHAT IT READS IS OF BULK AT MOST 1048576: true; the input reads as it did. -/
def journalEachUptoRow : OpenClaim := { program := "ytfimaflglnemdaadoor", sum := "22f1f4b24da8fdb71f15c4e1183760e04b3b1fb298362d68040d00a849a71ce5", func := "graft/graftlaw11.JournalEach", spec := "journalEach", unfollowed := true, recurses := true, named := ["graft/press.crcRows"], apart := false, laid := [("graft/press.crcRows", laid_graft_press_crcRows)], narrowed := true }
def JournalEachUptoSaid : Prop := journalEachUptoRow.holds Tryd.pinned (OpenSpec.upto journalEachSpec)

/-- 'graftlaw11.JournalAgain', WHERE WHAT IT READS IS OF BULK AT MOST 1048576: true; the input reads as it did. -/
def journalAgainUptoRow : OpenClaim := { program := "ytfimaflglnemdaadoor", sum := "22f1f4b24da8fdb71f15c4e1183760e04b3b1fb298362d68040d00a849a71ce5", func := "graft/graftlaw11.JournalAgain", spec := "journalAgain", unfollowed := true, recurses := true, named := ["graft/press.crcRows"], apart := false, laid := [("graft/press.crcRows", laid_graft_press_crcRows)], narrowed := true }
def JournalAgainUptoSaid : Prop := journalAgainUptoRow.holds Tryd.pinned (OpenSpec.upto journalAgainSpec)

/-- 'graftlaw11.JournalNil', WHERE WHAT IT READS IS OF BULK AT MOST 1048576: true; the input reads as it did. -/
def journalNilUptoRow : OpenClaim := { program := "ytfimaflglnemdaadoor", sum := "22f1f4b24da8fdb71f15c4e1183760e04b3b1fb298362d68040d00a849a71ce5", func := "graft/graftlaw11.JournalNil", spec := "journalNil", unfollowed := true, recurses := true, named := ["graft/press.crcRows"], apart := false, laid := [("graft/press.crcRows", laid_graft_press_crcRows)], narrowed := true }
def JournalNilUptoSaid : Prop := journalNilUptoRow.holds Tryd.pinned (OpenSpec.upto journalNilSpec)

/-- 'graftlaw11.JournalFresh', WHERE WHAT IT READS IS OF BULK AT MOST 1048576: true; the input reads as it did. -/
def journalFreshUptoRow : OpenClaim := { program := "ytfimaflglnemdaadoor", sum := "22f1f4b24da8fdb71f15c4e1183760e04b3b1fb298362d68040d00a849a71ce5", func := "graft/graftlaw11.JournalFresh", spec := "journalFresh", unfollowed := true, recurses := true, named := ["graft/press.crcRows"], apart := false, laid := [("graft/press.crcRows", laid_graft_press_crcRows)], narrowed := true }
def JournalFreshUptoSaid : Prop := journalFreshUptoRow.holds Tryd.pinned (OpenSpec.upto journalFreshSpec)

end Rows
end Go.Proofs.YtfimaflglnemdaaDoor
