/- Contracts: whether a table is valid, in the reference. -/
import Derived.Test.YtkhongbemoahpaaC26
import Derived.Test.YtkhongbemoahpaaRI
import Derived.Deep.QuietTactic
import Derived.BigQuiet
namespace Go.Proofs.Ytkhongbemoahpaa
open Go.RowKit Go.Lib Go.Shelf
set_option linter.unusedVariables false
set_option linter.unusedSimpArgs false
attribute [local go_sem ↓] Go.wp_at_zero Go.wp_at_succ

theorem tabE_bool (xs : List (Int × Int)) : tabOk xs = decide (tabE xs = 0) := by unfold tabE; cases tabOk xs <;> simp
end Go.Proofs.Ytkhongbemoahpaa

