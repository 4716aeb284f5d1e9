/- The digest of the empty text. -/
import Derived.Test.YtbflkkffpcaakabDoorQ
namespace Go.Proofs.YtbflkkffpcaakabDoor
set_option maxRecDepth 100000 in
theorem digest_nil : (digest []).take 4 = [227, 176, 196, 66] := by decide +kernel
end Go.Proofs.YtbflkkffpcaakabDoor
