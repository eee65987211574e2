/- Words for the walk. -/
import Derived.Test.YtejjobemafdlbaaSdc
import Derived.Deep.CutBlock
namespace Go.Proofs.Ytejjobemafdlbaa
end Go.Proofs.Ytejjobemafdlbaa
