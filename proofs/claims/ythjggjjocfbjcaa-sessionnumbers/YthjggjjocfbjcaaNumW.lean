/- SessionNumbers answers true. -/
import Derived.Test.YthjggjjocfbjcaaNumE
import Derived.Test.YthjggjjocfbjcaaNumH
namespace Go.Proofs.Ythjggjjocfbjcaa
open Go.RowKit

set_option maxRecDepth 1000000 in
theorem numbers_any (w : World) : Calls Try.prog 3 #[] w fun e w2 => e = .returned (.bool true) ∧ Below w.heap.size w w2 := num_h num_e w

end Go.Proofs.Ythjggjjocfbjcaa
