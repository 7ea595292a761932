/- Contracts: the reference's search by halving. -/
import Derived.Test.YtkhongbemoahpaaC29
import Derived.Test.YtkhongbemoahpaaP11
namespace Go.Proofs.Ytkhongbemoahpaa
open Go.RowKit Go.Lib Go.Shelf
set_option linter.unusedVariables false
set_option linter.unusedSimpArgs false
attribute [local go_sem ↓] Go.wp_at_zero Go.wp_at_succ

/-- what is looked for -/
def srP (yl yh : Int) (rises behind : Bool) (v : Int × Int) : Bool :=
  match rises, behind with
  | true, false => decide (yl ≤ v.1)
  | true, true => decide (yh < v.2)
  | false, false => decide (v.2 ≤ yh)
  | false, true => decide (v.1 < yl)
def SearchPost (P : Int → Bool) (a b : Int) (w : World) (e : Ending) (w' : World) : Prop := ∃ f, e = .returned (.int .i64 f) ∧ firstIs P a b f ∧ Below w.heap.size w w'
end Go.Proofs.Ytkhongbemoahpaa

