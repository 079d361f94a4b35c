/- Graphs: kept; two graphs that are alike. -/
import Derived.Test.YtibhjkmbbfgnpaaGd
namespace Go.Proofs.Ytibhjkmbbfgnpaa
open Go.RowKit
attribute [local go_sem ↓] toApE toSlE toEqA
end Go.Proofs.Ytibhjkmbbfgnpaa
