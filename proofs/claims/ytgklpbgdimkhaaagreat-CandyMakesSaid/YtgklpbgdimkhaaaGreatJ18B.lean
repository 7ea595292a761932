/- Contracts of the reference of chapter 11: Crystals. -/
import Derived.Test.YtgklpbgdimkhaaaGreatJ17B
import Derived.Deep.QuietTactic
import Derived.BigQuiet
namespace Go.Proofs.YtgklpbgdimkhaaaGreat
open Go.RowKit Go.Lib Go.Shelf
set_option linter.unusedVariables false
set_option linter.unusedSimpArgs false
attribute [local go_sem ↓] Go.wp_at_zero Go.wp_at_succ


end Go.Proofs.YtgklpbgdimkhaaaGreat
