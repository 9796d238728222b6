/- The answers that are known. -/
import Derived.Test.YtlmfiggmjpjpiaaF0
import Derived.Deep.RegionHeld3
namespace Go.Proofs.Ytlmfiggmjpjpiaa
open Go.RowKit

end Go.Proofs.Ytlmfiggmjpjpiaa
