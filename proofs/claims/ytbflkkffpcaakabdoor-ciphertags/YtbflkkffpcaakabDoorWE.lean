/- Walk over the document's quarter round on four of sixteen words. -/
import Derived.Test.YtbflkkffpcaakabDoorWD
namespace Go.Proofs.YtbflkkffpcaakabDoor
open Go.RowKit
end Go.Proofs.YtbflkkffpcaakabDoor
