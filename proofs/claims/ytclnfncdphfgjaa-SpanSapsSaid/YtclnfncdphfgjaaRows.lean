/-
  No cell of these rows narrows 'for every input' (looked for: loops, veiled, ifaces, maps, wideKeys, modest, calm, conditions, laid).
  DERIVED. THE GIVEN ROWS OF THIS SEAT. 11 by the template 'for every input the law returns true; each argument reads behind the call as it read before'; 0 by the template 'total and deterministic' (their statements: YtclnfncdphfgjaaTotals.lean).
  GIVEN WITH THE SEED: the statements are not yours to turn. If you find one false, say at which input.
  Laid BY PROGRAM, IN A SANDBOX (cutbox-rows.mjs): the forced cells as the released guide's own fill.sh prints them over the translation cb259944a2c9b474… (all of the seat's roots in one cut). By AI agents, Wed Nov 11 2026. No macro, syntax, notation, axiom, sorry.
-/
import Derived.Test.YtclnfncdphfgjaaChecked
import GoSem.Claim
import GoSem.ClaimJoined
import GoSem.ClaimMapViews
import Derived.JoinedTies
import Derived.KernelRfl
namespace Go.Proofs.Ytclnfncdphfgjaa
/- THE CELL 'sum', in the pinned program and in every row, IS THE sha256 OF THE DUMP (.gsa) THAT YtclnfncdphfgjaaProg.lean LOADS. Nothing in Lean hashes anything: it is a label: what it is worth is what the hold of that sum in a sandbox is worth. -/
noncomputable def Try.pinned : Pinned := { name := "ytclnfncdphfgjaa", sum := "cb259944a2c9b474f93d7373f745a8118ff90d42b7c16c9378923f18f3ecf160", checked := Try.checked }
namespace Rows
def none {H : Type} : Left H := { results := [], args := [] }

/-- 'spilelaw01.SpanSaps': WHATEVER THE INPUT: true; the input reads as it did. -/
def spanSapsSpec : ChangeSpec := { name := "spanSaps", fn := fun _ => fun
  | [d1, d2, d3] => { results := [.lit (.bool true)], args := [d1, d2, d3] }
  | _ => none }
def spanSapsRow : OpenClaim := { program := "ytclnfncdphfgjaa", sum := "cb259944a2c9b474f93d7373f745a8118ff90d42b7c16c9378923f18f3ecf160", func := "spile/spilelaw01.SpanSaps", spec := "spanSaps", unfollowed := true, recurses := true, named := ["math/bits.divideError", "math/bits.overflowError"], apart := false }
def SpanSapsSaid : Prop := spanSapsRow.holds Try.pinned (OpenSpec.ofChange spanSapsSpec)

/-- ITS FALSE NEIGHBOUR: 'it returns false'. Refute it at one input. -/
def spanSapsWrong : ChangeSpec := { name := "spanSaps", fn := fun _ => fun
  | [d1, d2, d3] => { results := [.lit (.bool false)], args := [d1, d2, d3] }
  | _ => none }
def SpanSapsWrongFalsely : Prop := spanSapsRow.holds Try.pinned (OpenSpec.ofChange spanSapsWrong)

/-- 'spilelaw10.PoolPortions': WHATEVER THE INPUT: true; the input reads as it did. -/
def poolPortionsSpec : ChangeSpec := { name := "poolPortions", fn := fun _ => fun
  | [d1, d2] => { results := [.lit (.bool true)], args := [d1, d2] }
  | _ => none }
def poolPortionsRow : OpenClaim := { program := "ytclnfncdphfgjaa", sum := "cb259944a2c9b474f93d7373f745a8118ff90d42b7c16c9378923f18f3ecf160", func := "spile/spilelaw10.PoolPortions", spec := "poolPortions", unfollowed := true, recurses := true, named := ["math/bits.divideError", "math/bits.overflowError"], apart := false }
def PoolPortionsSaid : Prop := poolPortionsRow.holds Try.pinned (OpenSpec.ofChange poolPortionsSpec)

/-- ITS FALSE NEIGHBOUR: 'it returns false'. Refute it at one input. -/
def poolPortionsWrong : ChangeSpec := { name := "poolPortions", fn := fun _ => fun
  | [d1, d2] => { results := [.lit (.bool false)], args := [d1, d2] }
  | _ => none }
def PoolPortionsWrongFalsely : Prop := poolPortionsRow.holds Try.pinned (OpenSpec.ofChange poolPortionsWrong)

/-- 'spilelaw10.PoolTells': WHATEVER THE INPUT: true; the input reads as it did. -/
def poolTellsSpec : ChangeSpec := { name := "poolTells", fn := fun _ => fun
  | [d1, d2, d3] => { results := [.lit (.bool true)], args := [d1, d2, d3] }
  | _ => none }
def poolTellsRow : OpenClaim := { program := "ytclnfncdphfgjaa", sum := "cb259944a2c9b474f93d7373f745a8118ff90d42b7c16c9378923f18f3ecf160", func := "spile/spilelaw10.PoolTells", spec := "poolTells", unfollowed := true, recurses := true, named := ["math/bits.divideError", "math/bits.overflowError"], apart := false }
def PoolTellsSaid : Prop := poolTellsRow.holds Try.pinned (OpenSpec.ofChange poolTellsSpec)

/-- ITS FALSE NEIGHBOUR: 'it returns false'. Refute it at one input. -/
def poolTellsWrong : ChangeSpec := { name := "poolTells", fn := fun _ => fun
  | [d1, d2, d3] => { results := [.lit (.bool false)], args := [d1, d2, d3] }
  | _ => none }
def PoolTellsWrongFalsely : Prop := poolTellsRow.holds Try.pinned (OpenSpec.ofChange poolTellsWrong)

/-- 'spilelaw10.PoolAccepts': WHATEVER THE INPUT: true; the input reads as it did. -/
def poolAcceptsSpec : ChangeSpec := { name := "poolAccepts", fn := fun _ => fun
  | [d1, d2, d3] => { results := [.lit (.bool true)], args := [d1, d2, d3] }
  | _ => none }
def poolAcceptsRow : OpenClaim := { program := "ytclnfncdphfgjaa", sum := "cb259944a2c9b474f93d7373f745a8118ff90d42b7c16c9378923f18f3ecf160", func := "spile/spilelaw10.PoolAccepts", spec := "poolAccepts", unfollowed := true, recurses := true, named := ["math/bits.divideError", "math/bits.overflowError"], apart := false }
def PoolAcceptsSaid : Prop := poolAcceptsRow.holds Try.pinned (OpenSpec.ofChange poolAcceptsSpec)

/-- ITS FALSE NEIGHBOUR: 'it returns false'. Refute it at one input. -/
def poolAcceptsWrong : ChangeSpec := { name := "poolAccepts", fn := fun _ => fun
  | [d1, d2, d3] => { results := [.lit (.bool false)], args := [d1, d2, d3] }
  | _ => none }
def PoolAcceptsWrongFalsely : Prop := poolAcceptsRow.holds Try.pinned (OpenSpec.ofChange poolAcceptsWrong)

/-- 'spilelaw10.PoolSettles': WHATEVER THE INPUT: true; the input reads as it did. -/
def poolSettlesSpec : ChangeSpec := { name := "poolSettles", fn := fun _ => fun
  | [d1, d2, d3] => { results := [.lit (.bool true)], args := [d1, d2, d3] }
  | _ => none }
def poolSettlesRow : OpenClaim := { program := "ytclnfncdphfgjaa", sum := "cb259944a2c9b474f93d7373f745a8118ff90d42b7c16c9378923f18f3ecf160", func := "spile/spilelaw10.PoolSettles", spec := "poolSettles", unfollowed := true, recurses := true, named := ["math/bits.divideError", "math/bits.overflowError"], apart := false }
def PoolSettlesSaid : Prop := poolSettlesRow.holds Try.pinned (OpenSpec.ofChange poolSettlesSpec)

/-- ITS FALSE NEIGHBOUR: 'it returns false'. Refute it at one input. -/
def poolSettlesWrong : ChangeSpec := { name := "poolSettles", fn := fun _ => fun
  | [d1, d2, d3] => { results := [.lit (.bool false)], args := [d1, d2, d3] }
  | _ => none }
def PoolSettlesWrongFalsely : Prop := poolSettlesRow.holds Try.pinned (OpenSpec.ofChange poolSettlesWrong)

/-- 'spilelaw10.PoolYears': WHATEVER THE INPUT: true; the input reads as it did. -/
def poolYearsSpec : ChangeSpec := { name := "poolYears", fn := fun _ => fun
  | [d1, d2, d3] => { results := [.lit (.bool true)], args := [d1, d2, d3] }
  | _ => none }
def poolYearsRow : OpenClaim := { program := "ytclnfncdphfgjaa", sum := "cb259944a2c9b474f93d7373f745a8118ff90d42b7c16c9378923f18f3ecf160", func := "spile/spilelaw10.PoolYears", spec := "poolYears", unfollowed := true, recurses := true, named := ["math/bits.divideError", "math/bits.overflowError"], apart := false }
def PoolYearsSaid : Prop := poolYearsRow.holds Try.pinned (OpenSpec.ofChange poolYearsSpec)

/-- ITS FALSE NEIGHBOUR: 'it returns false'. Refute it at one input. -/
def poolYearsWrong : ChangeSpec := { name := "poolYears", fn := fun _ => fun
  | [d1, d2, d3] => { results := [.lit (.bool false)], args := [d1, d2, d3] }
  | _ => none }
def PoolYearsWrongFalsely : Prop := poolYearsRow.holds Try.pinned (OpenSpec.ofChange poolYearsWrong)

/-- 'spilelaw10.PoolShares': WHATEVER THE INPUT: true; the input reads as it did. -/
def poolSharesSpec : ChangeSpec := { name := "poolShares", fn := fun _ => fun
  | [d1, d2] => { results := [.lit (.bool true)], args := [d1, d2] }
  | _ => none }
def poolSharesRow : OpenClaim := { program := "ytclnfncdphfgjaa", sum := "cb259944a2c9b474f93d7373f745a8118ff90d42b7c16c9378923f18f3ecf160", func := "spile/spilelaw10.PoolShares", spec := "poolShares", unfollowed := true, recurses := true, named := ["math/bits.divideError", "math/bits.overflowError"], apart := false }
def PoolSharesSaid : Prop := poolSharesRow.holds Try.pinned (OpenSpec.ofChange poolSharesSpec)

/-- ITS FALSE NEIGHBOUR: 'it returns false'. Refute it at one input. -/
def poolSharesWrong : ChangeSpec := { name := "poolShares", fn := fun _ => fun
  | [d1, d2] => { results := [.lit (.bool false)], args := [d1, d2] }
  | _ => none }
def PoolSharesWrongFalsely : Prop := poolSharesRow.holds Try.pinned (OpenSpec.ofChange poolSharesWrong)

/-- 'spilelaw10.PoolGrams': WHATEVER THE INPUT: true; the input reads as it did. -/
def poolGramsSpec : ChangeSpec := { name := "poolGrams", fn := fun _ => fun
  | [d1, d2, d3] => { results := [.lit (.bool true)], args := [d1, d2, d3] }
  | _ => none }
def poolGramsRow : OpenClaim := { program := "ytclnfncdphfgjaa", sum := "cb259944a2c9b474f93d7373f745a8118ff90d42b7c16c9378923f18f3ecf160", func := "spile/spilelaw10.PoolGrams", spec := "poolGrams", unfollowed := true, recurses := true, named := ["math/bits.divideError", "math/bits.overflowError"], apart := false }
def PoolGramsSaid : Prop := poolGramsRow.holds Try.pinned (OpenSpec.ofChange poolGramsSpec)

/-- ITS FALSE NEIGHBOUR: 'it returns false'. Refute it at one input. -/
def poolGramsWrong : ChangeSpec := { name := "poolGrams", fn := fun _ => fun
  | [d1, d2, d3] => { results := [.lit (.bool false)], args := [d1, d2, d3] }
  | _ => none }
def PoolGramsWrongFalsely : Prop := poolGramsRow.holds Try.pinned (OpenSpec.ofChange poolGramsWrong)

/-- 'spilelaw10.PoolOrders': WHATEVER THE INPUT: true; the input reads as it did. -/
def poolOrdersSpec : ChangeSpec := { name := "poolOrders", fn := fun _ => fun
  | [d1, d2, d3] => { results := [.lit (.bool true)], args := [d1, d2, d3] }
  | _ => none }
def poolOrdersRow : OpenClaim := { program := "ytclnfncdphfgjaa", sum := "cb259944a2c9b474f93d7373f745a8118ff90d42b7c16c9378923f18f3ecf160", func := "spile/spilelaw10.PoolOrders", spec := "poolOrders", unfollowed := true, recurses := true, named := ["math/bits.divideError", "math/bits.overflowError"], apart := false }
def PoolOrdersSaid : Prop := poolOrdersRow.holds Try.pinned (OpenSpec.ofChange poolOrdersSpec)

/-- ITS FALSE NEIGHBOUR: 'it returns false'. Refute it at one input. -/
def poolOrdersWrong : ChangeSpec := { name := "poolOrders", fn := fun _ => fun
  | [d1, d2, d3] => { results := [.lit (.bool false)], args := [d1, d2, d3] }
  | _ => none }
def PoolOrdersWrongFalsely : Prop := poolOrdersRow.holds Try.pinned (OpenSpec.ofChange poolOrdersWrong)

/-- 'spilelaw10.PoolBalances': WHATEVER THE INPUT: true; the input reads as it did. -/
def poolBalancesSpec : ChangeSpec := { name := "poolBalances", fn := fun _ => fun
  | [d1, d2, d3] => { results := [.lit (.bool true)], args := [d1, d2, d3] }
  | _ => none }
def poolBalancesRow : OpenClaim := { program := "ytclnfncdphfgjaa", sum := "cb259944a2c9b474f93d7373f745a8118ff90d42b7c16c9378923f18f3ecf160", func := "spile/spilelaw10.PoolBalances", spec := "poolBalances", unfollowed := true, recurses := true, named := ["math/bits.divideError", "math/bits.overflowError"], apart := false }
def PoolBalancesSaid : Prop := poolBalancesRow.holds Try.pinned (OpenSpec.ofChange poolBalancesSpec)

/-- ITS FALSE NEIGHBOUR: 'it returns false'. Refute it at one input. -/
def poolBalancesWrong : ChangeSpec := { name := "poolBalances", fn := fun _ => fun
  | [d1, d2, d3] => { results := [.lit (.bool false)], args := [d1, d2, d3] }
  | _ => none }
def PoolBalancesWrongFalsely : Prop := poolBalancesRow.holds Try.pinned (OpenSpec.ofChange poolBalancesWrong)

/-- 'spilelaw10.PoolLeases': WHATEVER THE INPUT: true; the input reads as it did. -/
def poolLeasesSpec : ChangeSpec := { name := "poolLeases", fn := fun _ => fun
  | [d1, d2] => { results := [.lit (.bool true)], args := [d1, d2] }
  | _ => none }
def poolLeasesRow : OpenClaim := { program := "ytclnfncdphfgjaa", sum := "cb259944a2c9b474f93d7373f745a8118ff90d42b7c16c9378923f18f3ecf160", func := "spile/spilelaw10.PoolLeases", spec := "poolLeases", unfollowed := true, recurses := true, named := ["math/bits.divideError", "math/bits.overflowError"], apart := false }
def PoolLeasesSaid : Prop := poolLeasesRow.holds Try.pinned (OpenSpec.ofChange poolLeasesSpec)

/-- ITS FALSE NEIGHBOUR: 'it returns false'. Refute it at one input. -/
def poolLeasesWrong : ChangeSpec := { name := "poolLeases", fn := fun _ => fun
  | [d1, d2] => { results := [.lit (.bool false)], args := [d1, d2] }
  | _ => none }
def PoolLeasesWrongFalsely : Prop := poolLeasesRow.holds Try.pinned (OpenSpec.ofChange poolLeasesWrong)

/- THE SECOND FORM. 'bulk': how many values and letters a reading holds, each counted each time it is reached (what is shared counts as often as it is met; a slice's spare places count too). A statement '..UptoSaid' is the law's where the arguments, and the package variables that the reading takes, are together of bulk at most 1048576: NARROWER than '..Said'. Prove '..Said' where nothing that the law and all that it calls make is longer than what came in: it says more and counts as full. Else prove '..UptoSaid'. A law counts once. -/
mutual
def uptoBulk {H : Type} : DataW H → Nat
  | .lit (.string bytes) => bytes.length + 1
  | .lit _ => 1
  | .nil => 1
  | .ptr d => uptoBulk d + 1
  | .slice elems spare => uptoBulkAll elems + uptoBulkAll spare + 1
  | .agg parts => uptoBulkAll parts + 1
  | .iface _ d => uptoBulk d + 1
  | .map entries => uptoBulkEntries entries + 1
  | .held _ => 1
def uptoBulkAll {H : Type} : List (DataW H) → Nat
  | [] => 0
  | d :: r => uptoBulk d + uptoBulkAll r
def uptoBulkEntries {H : Type} : List (Lit × DataW H) → Nat
  | [] => 0
  | x :: r => uptoBulkEntry x + uptoBulkEntries r
def uptoBulkEntry {H : Type} : Lit × DataW H → Nat
  | (.string bytes, d) => bytes.length + uptoBulk d + 1
  | (_, d) => uptoBulk d + 1
 end
def uptoSmall : (H : Type) → List (DataW H) → Bool := fun _ ds => decide (uptoBulkAll ds ≤ 1048576)
def OpenSpec.upto (s : _root_.Go.ChangeSpec) : _root_.Go.OpenSpec := { _root_.Go.OpenSpec.ofChange s with cond := some uptoSmall }

/-- 'spilelaw01.SpanSaps', WHERE WHAT IT READS IS OF BULK AT MOST 1048576: true; the input reads as it did. -/
def spanSapsUptoRow : OpenClaim := { program := "ytclnfncdphfgjaa", sum := "cb259944a2c9b474f93d7373f745a8118ff90d42b7c16c9378923f18f3ecf160", func := "spile/spilelaw01.SpanSaps", spec := "spanSaps", unfollowed := true, recurses := true, named := ["math/bits.divideError", "math/bits.overflowError"], apart := false, narrowed := true }
def SpanSapsUptoSaid : Prop := spanSapsUptoRow.holds Try.pinned (OpenSpec.upto spanSapsSpec)

/-- 'spilelaw10.PoolPortions', WHERE WHAT IT READS IS OF BULK AT MOST 1048576: true; the input reads as it did. -/
def poolPortionsUptoRow : OpenClaim := { program := "ytclnfncdphfgjaa", sum := "cb259944a2c9b474f93d7373f745a8118ff90d42b7c16c9378923f18f3ecf160", func := "spile/spilelaw10.PoolPortions", spec := "poolPortions", unfollowed := true, recurses := true, named := ["math/bits.divideError", "math/bits.overflowError"], apart := false, narrowed := true }
def PoolPortionsUptoSaid : Prop := poolPortionsUptoRow.holds Try.pinned (OpenSpec.upto poolPortionsSpec)

/-- 'spilelaw10.PoolTells', WHERE WHAT IT READS IS OF BULK AT MOST 1048576: true; the input reads as it did. -/
def poolTellsUptoRow : OpenClaim := { program := "ytclnfncdphfgjaa", sum := "cb259944a2c9b474f93d7373f745a8118ff90d42b7c16c9378923f18f3ecf160", func := "spile/spilelaw10.PoolTells", spec := "poolTells", unfollowed := true, recurses := true, named := ["math/bits.divideError", "math/bits.overflowError"], apart := false, narrowed := true }
def PoolTellsUptoSaid : Prop := poolTellsUptoRow.holds Try.pinned (OpenSpec.upto poolTellsSpec)

/-- 'spilelaw10.PoolAccepts', WHERE WHAT IT READS IS OF BULK AT MOST 1048576: true; the input reads as it did. -/
def poolAcceptsUptoRow : OpenClaim := { program := "ytclnfncdphfgjaa", sum := "cb259944a2c9b474f93d7373f745a8118ff90d42b7c16c9378923f18f3ecf160", func := "spile/spilelaw10.PoolAccepts", spec := "poolAccepts", unfollowed := true, recurses := true, named := ["math/bits.divideError", "math/bits.overflowError"], apart := false, narrowed := true }
def PoolAcceptsUptoSaid : Prop := poolAcceptsUptoRow.holds Try.pinned (OpenSpec.upto poolAcceptsSpec)

/-- 'spilelaw10.PoolSettles', WHERE WHAT IT READS IS OF BULK AT MOST 1048576: true; the input reads as it did. -/
def poolSettlesUptoRow : OpenClaim := { program := "ytclnfncdphfgjaa", sum := "cb259944a2c9b474f93d7373f745a8118ff90d42b7c16c9378923f18f3ecf160", func := "spile/spilelaw10.PoolSettles", spec := "poolSettles", unfollowed := true, recurses := true, named := ["math/bits.divideError", "math/bits.overflowError"], apart := false, narrowed := true }
def PoolSettlesUptoSaid : Prop := poolSettlesUptoRow.holds Try.pinned (OpenSpec.upto poolSettlesSpec)

/-- 'spilelaw10.PoolYears', WHERE WHAT IT READS IS OF BULK AT MOST 1048576: true; the input reads as it did. -/
def poolYearsUptoRow : OpenClaim := { program := "ytclnfncdphfgjaa", sum := "cb259944a2c9b474f93d7373f745a8118ff90d42b7c16c9378923f18f3ecf160", func := "spile/spilelaw10.PoolYears", spec := "poolYears", unfollowed := true, recurses := true, named := ["math/bits.divideError", "math/bits.overflowError"], apart := false, narrowed := true }
def PoolYearsUptoSaid : Prop := poolYearsUptoRow.holds Try.pinned (OpenSpec.upto poolYearsSpec)

/-- 'spilelaw10.PoolShares', WHERE WHAT IT READS IS OF BULK AT MOST 1048576: true; the input reads as it did. -/
def poolSharesUptoRow : OpenClaim := { program := "ytclnfncdphfgjaa", sum := "cb259944a2c9b474f93d7373f745a8118ff90d42b7c16c9378923f18f3ecf160", func := "spile/spilelaw10.PoolShares", spec := "poolShares", unfollowed := true, recurses := true, named := ["math/bits.divideError", "math/bits.overflowError"], apart := false, narrowed := true }
def PoolSharesUptoSaid : Prop := poolSharesUptoRow.holds Try.pinned (OpenSpec.upto poolSharesSpec)

/-- 'spilelaw10.PoolGrams', WHERE WHAT IT READS IS OF BULK AT MOST 1048576: true; the input reads as it did. -/
def poolGramsUptoRow : OpenClaim := { program := "ytclnfncdphfgjaa", sum := "cb259944a2c9b474f93d7373f745a8118ff90d42b7c16c9378923f18f3ecf160", func := "spile/spilelaw10.PoolGrams", spec := "poolGrams", unfollowed := true, recurses := true, named := ["math/bits.divideError", "math/bits.overflowError"], apart := false, narrowed := true }
def PoolGramsUptoSaid : Prop := poolGramsUptoRow.holds Try.pinned (OpenSpec.upto poolGramsSpec)

/-- 'spilelaw10.PoolOrders', WHERE WHAT IT READS IS OF BULK AT MOST 1048576: true; the input reads as it did. -/
def poolOrdersUptoRow : OpenClaim := { program := "ytclnfncdphfgjaa", sum := "cb259944a2c9b474f93d7373f745a8118ff90d42b7c16c9378923f18f3ecf160", func := "spile/spilelaw10.PoolOrders", spec := "poolOrders", unfollowed := true, recurses := true, named := ["math/bits.divideError", "math/bits.overflowError"], apart := false, narrowed := true }
def PoolOrdersUptoSaid : Prop := poolOrdersUptoRow.holds Try.pinned (OpenSpec.upto poolOrdersSpec)

/-- 'spilelaw10.PoolBalances', WHERE WHAT IT READS IS OF BULK AT MOST 1048576: true; the input reads as it did. -/
def poolBalancesUptoRow : OpenClaim := { program := "ytclnfncdphfgjaa", sum := "cb259944a2c9b474f93d7373f745a8118ff90d42b7c16c9378923f18f3ecf160", func := "spile/spilelaw10.PoolBalances", spec := "poolBalances", unfollowed := true, recurses := true, named := ["math/bits.divideError", "math/bits.overflowError"], apart := false, narrowed := true }
def PoolBalancesUptoSaid : Prop := poolBalancesUptoRow.holds Try.pinned (OpenSpec.upto poolBalancesSpec)

/-- 'spilelaw10.PoolLeases', WHERE WHAT IT READS IS OF BULK AT MOST 1048576: true; the input reads as it did. -/
def poolLeasesUptoRow : OpenClaim := { program := "ytclnfncdphfgjaa", sum := "cb259944a2c9b474f93d7373f745a8118ff90d42b7c16c9378923f18f3ecf160", func := "spile/spilelaw10.PoolLeases", spec := "poolLeases", unfollowed := true, recurses := true, named := ["math/bits.divideError", "math/bits.overflowError"], apart := false, narrowed := true }
def PoolLeasesUptoSaid : Prop := poolLeasesUptoRow.holds Try.pinned (OpenSpec.upto poolLeasesSpec)

end Rows
end Go.Proofs.Ytclnfncdphfgjaa
