/- What Int and Is of the reference's numbers return. -/
import Derived.Test.YtfaglcfoamfelaaDoorReff
namespace Go.Proofs.YtfaglcfoamfelaaDoor
open Go.RowKit
end Go.Proofs.YtfaglcfoamfelaaDoor
