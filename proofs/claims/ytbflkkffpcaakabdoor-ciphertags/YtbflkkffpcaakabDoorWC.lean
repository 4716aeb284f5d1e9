/- Walk over the document's Quarter. -/
import Derived.Test.YtbflkkffpcaakabDoorWB
namespace Go.Proofs.YtbflkkffpcaakabDoor
open Go.RowKit
end Go.Proofs.YtbflkkffpcaakabDoor
