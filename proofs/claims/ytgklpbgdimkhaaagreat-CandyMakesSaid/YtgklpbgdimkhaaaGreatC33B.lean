/- Contracts: the reference's values of a table in a range. -/
import Derived.Test.YtgklpbgdimkhaaaGreatC32B
import Derived.Test.YtgklpbgdimkhaaaGreatKA6B
namespace Go.Proofs.YtgklpbgdimkhaaaGreat
open Go.RowKit Go.Lib Go.Shelf
set_option linter.unusedVariables false
set_option linter.unusedSimpArgs false
attribute [local go_sem ↓] Go.wp_at_zero Go.wp_at_succ

end Go.Proofs.YtgklpbgdimkhaaaGreat

