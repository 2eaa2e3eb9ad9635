/-
  slices.Sort on numbers that the call itself made. By an AI agent.
-/
import Derived.Test.YtjjcpbhmpjedoaaMath
import Derived.Test.YtjjcpbhmpjedoaaAppend
import Derived.Test.YtjjcpbhmpjedoaaPut
namespace Go.Proofs.Ytjjcpbhmpjedoaa
open Go.RowKit Cv
set_option linter.unusedVariables false
set_option linter.unusedSimpArgs false
set_option maxRecDepth 100000

end Go.Proofs.Ytjjcpbhmpjedoaa
