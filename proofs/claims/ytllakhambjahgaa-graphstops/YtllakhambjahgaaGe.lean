/- Graphs: kept; two graphs that are alike. -/
import Derived.Test.YtllakhambjahgaaGd
namespace Go.Proofs.Ytllakhambjahgaa
open Go.RowKit
attribute [local go_sem ↓] toApE toSlE toEqA
end Go.Proofs.Ytllakhambjahgaa
