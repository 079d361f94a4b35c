/- Graphs: kept; two graphs that are alike. -/
import Derived.Test.YtgedmfcfhdfoeaaGd
namespace Go.Proofs.Ytgedmfcfhdfoeaa
open Go.RowKit
attribute [local go_sem ↓] toApE toSlE toEqA
end Go.Proofs.Ytgedmfcfhdfoeaa
