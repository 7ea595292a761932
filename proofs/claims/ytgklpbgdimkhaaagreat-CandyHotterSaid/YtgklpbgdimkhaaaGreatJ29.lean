/- The walk of CandyHotter. -/
import Derived.Test.YtgklpbgdimkhaaaGreatJ26
import Derived.Test.YtgklpbgdimkhaaaGreatJ27
namespace Go.Proofs.YtgklpbgdimkhaaaGreat
open Go.RowKit Go.Lib Go.Shelf
set_option linter.unusedVariables false
set_option linter.unusedSimpArgs false
attribute [local go_sem ↓] Go.wp_at_zero Go.wp_at_succ


theorem hotter_any (v1 v2 v3 : Value) (R : Cr) (a s x y : Int) (w : World) (hx : 0 ≤ x ∧ x ≤ 65535) (hy : 0 ≤ y ∧ y ≤ 65535) (hv : CrAt w.heap.size w v1 v2 v3 R) :
  Calls Tryz.prog 8 #[.agg (cCr v1 v2 v3 R).toArray, .agg #[.int .i64 a, .int .i64 s], .agg #[.int .u16 x, .int .u16 y]] w fun e w' => e = .returned (.bool true) ∧ Below w.heap.size w w' := by
 cases hl : lgB R
 ·cases hc : crB R
  ·exact hotter_bad v1 v2 v3 R a s x y w hx hy hv (.inr hc)
  ·by_cases hd : dnF R.xs (max (min x y % 1500) (max x y % 1500) - R.bl) ≤ ltX R.xs
   ·by_cases hq : hdX R.xs < dnF R.xs (min (min x y % 1500) (max x y % 1500) - R.bl)
    ·exact hotter_more v1 v2 v3 R a s x y w hx hy hv hl hc hd hq
    ·exact hotter_less v1 v2 v3 R a s x y w hx hy hv hl hc hd hq
   ·exact hotter_none v1 v2 v3 R a s x y w hx hy hv hl hc hd
 ·exact hotter_bad v1 v2 v3 R a s x y w hx hy hv (.inl hl)
end Go.Proofs.YtgklpbgdimkhaaaGreat
