/-
  The contract of the program's distances from the words of a code. By an AI agent.
-/
import Derived.Test.YtcnnijeokefboaaGreatDoorFar
import Derived.Deep.RegionHeld3
namespace Go.Proofs.YtcnnijeokefboaaGreatDoor
open Go.RowKit Cv
set_option linter.unusedVariables false
set_option linter.unusedSimpArgs false
set_option maxRecDepth 100000

end Go.Proofs.YtcnnijeokefboaaGreatDoor
