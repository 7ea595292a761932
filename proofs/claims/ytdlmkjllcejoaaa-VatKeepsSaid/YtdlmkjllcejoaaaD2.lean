/- Contracts: the ranges of differences, products and quotients, errors too. -/
import Derived.Test.YtdlmkjllcejoaaaD1
namespace Go.Proofs.Ytdlmkjllcejoaaa
open Go.RowKit Go.Lib Go.Shelf
set_option linter.unusedVariables false
set_option linter.unusedSimpArgs false
attribute [local go_sem ↓] Go.wp_at_zero Go.wp_at_succ

theorem vrB_of' {lo hi : Int} (h : vrB lo hi = true) : -1000000000000000 ≤ lo ∧ lo ≤ hi ∧ hi ≤ 1000000000000000 := by simp [vrB] at h; omega
def lsL (a1 a2 b1 b2 : Int) : Int := if vrB a1 a2 && vrB b1 b2 then fitL (a1 - b2) (a2 - b1) else 0
def lsH (a1 a2 b1 b2 : Int) : Int := if vrB a1 a2 && vrB b1 b2 then fitH (a1 - b2) (a2 - b1) else 0
def lsE (a1 a2 b1 b2 : Int) : Int := if vrB a1 a2 && vrB b1 b2 then fitE (a1 - b2) (a2 - b1) else 2
/-- all products, and all quotients, of the ends -/
def timesP (a1 a2 b1 b2 : Int) : Int × Int := [arP a1 b2 1, arP a2 b1 1, arP a2 b2 1].foldl hullJ (arP a1 b1 1)
def overP (a1 a2 b1 b2 : Int) : Int × Int := [arP a1 1 b2, arP a2 1 b1, arP a2 1 b2].foldl hullJ (arP a1 1 b1)
def tmL (a1 a2 b1 b2 : Int) : Int := if vrB a1 a2 && vrB b1 b2 then fitL (timesP a1 a2 b1 b2).1 (timesP a1 a2 b1 b2).2 else 0
def tmH (a1 a2 b1 b2 : Int) : Int := if vrB a1 a2 && vrB b1 b2 then fitH (timesP a1 a2 b1 b2).1 (timesP a1 a2 b1 b2).2 else 0
def tmE (a1 a2 b1 b2 : Int) : Int := if vrB a1 a2 && vrB b1 b2 then fitE (timesP a1 a2 b1 b2).1 (timesP a1 a2 b1 b2).2 else 2
def ovL (a1 a2 b1 b2 : Int) : Int := if vrB a1 a2 && vrB b1 b2 then (if b1 ≤ 0 ∧ 0 ≤ b2 then 0 else fitL (overP a1 a2 b1 b2).1 (overP a1 a2 b1 b2).2) else 0
def ovH (a1 a2 b1 b2 : Int) : Int := if vrB a1 a2 && vrB b1 b2 then (if b1 ≤ 0 ∧ 0 ≤ b2 then 0 else fitH (overP a1 a2 b1 b2).1 (overP a1 a2 b1 b2).2) else 0
def ovE (a1 a2 b1 b2 : Int) : Int := if vrB a1 a2 && vrB b1 b2 then (if b1 ≤ 0 ∧ 0 ≤ b2 then 3 else fitE (overP a1 a2 b1 b2).1 (overP a1 a2 b1 b2).2) else 2

end Go.Proofs.Ytdlmkjllcejoaaa

