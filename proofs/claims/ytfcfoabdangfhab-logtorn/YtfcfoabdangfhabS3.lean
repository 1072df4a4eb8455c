/- List of the document's own sheet, by its contract. -/
import Derived.Test.YtfcfoabdangfhabS2
namespace Go.Proofs.Ytfcfoabdangfhab
open Go.RowKit
set_option maxRecDepth 20000
attribute [local go_sem ↓] Go.wp_at_zero Go.wp_at_succ

end Go.Proofs.Ytfcfoabdangfhab
