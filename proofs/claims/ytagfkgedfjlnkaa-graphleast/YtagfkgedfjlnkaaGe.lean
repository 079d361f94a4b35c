/- Graphs: kept; two graphs that are alike. -/
import Derived.Test.YtagfkgedfjlnkaaGd
namespace Go.Proofs.Ytagfkgedfjlnkaa
open Go.RowKit
attribute [local go_sem ↓] toApE toSlE toEqA
end Go.Proofs.Ytagfkgedfjlnkaa
