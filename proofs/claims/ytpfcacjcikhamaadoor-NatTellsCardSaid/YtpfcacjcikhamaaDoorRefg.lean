/- What Int and Is of the reference's numbers return. -/
import Derived.Test.YtpfcacjcikhamaaDoorReff
namespace Go.Proofs.YtpfcacjcikhamaaDoor
set_option maxRecDepth 100000
open Go.RowKit
end Go.Proofs.YtpfcacjcikhamaaDoor
