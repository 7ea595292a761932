/-
  No cell of these rows narrows 'for every input' (looked for: loops, veiled, ifaces, maps, wideKeys, modest, calm, conditions, laid).
  DERIVED. THE GIVEN ROWS OF THIS SEAT. 7 by the template 'for every input the law returns true; each argument reads behind the call as it read before'; 0 by the template 'total and deterministic' (their statements: YtgklpbgdimkhaaaGreatTotals.lean).
  GIVEN WITH THE SEED: the statements are not yours to turn. If you find one false, say at which input.
  Laid BY PROGRAM, IN A SANDBOX (cutbox-rows.mjs): the forced cells as the released guide's own fill.sh prints them over the translation 9f265c41880f0332… (all of the seat's roots in one cut). By AI agents, Wed Nov 11 2026. No macro, syntax, notation, axiom, sorry.
-/
import Derived.Test.YtgklpbgdimkhaaaGreatChecked
import GoSem.Claim
import GoSem.ClaimJoined
import GoSem.ClaimMapViews
import Derived.JoinedTies
import Derived.KernelRfl
namespace Go.Proofs.YtgklpbgdimkhaaaGreat
/- THE CELL 'sum', in the pinned program and in every row, IS THE sha256 OF THE DUMP (.gsa) THAT YtgklpbgdimkhaaaGreatProg.lean LOADS. Nothing in Lean hashes anything: it is a label: what it is worth is what the hold of that sum in a sandbox is worth. -/
noncomputable def Tryz.pinned : Pinned := { name := "ytgklpbgdimkhaaagreat", sum := "9f265c41880f033217b9a75bfe62afa5916f9c733062069526aa378736bcf04b", checked := Tryz.checked }
namespace Rows
def none {H : Type} : Left H := { results := [], args := [] }

/-- 'spilelaw11.CandyTells': WHATEVER THE INPUT: true; the input reads as it did. -/
def candyTellsSpec : ChangeSpec := { name := "candyTells", fn := fun _ => fun
  | [d1, d2, d3] => { results := [.lit (.bool true)], args := [d1, d2, d3] }
  | _ => none }
def candyTellsRow : OpenClaim := { program := "ytgklpbgdimkhaaagreat", sum := "9f265c41880f033217b9a75bfe62afa5916f9c733062069526aa378736bcf04b", func := "spile/spilelaw11.CandyTells", spec := "candyTells", unfollowed := true, recurses := true, named := ["math/bits.divideError", "math/bits.overflowError"], apart := false }
def CandyTellsSaid : Prop := candyTellsRow.holds Tryz.pinned (OpenSpec.ofChange candyTellsSpec)

/-- ITS FALSE NEIGHBOUR: 'it returns false'. Refute it at one input. -/
def candyTellsWrong : ChangeSpec := { name := "candyTells", fn := fun _ => fun
  | [d1, d2, d3] => { results := [.lit (.bool false)], args := [d1, d2, d3] }
  | _ => none }
def CandyTellsWrongFalsely : Prop := candyTellsRow.holds Tryz.pinned (OpenSpec.ofChange candyTellsWrong)

/-- 'spilelaw11.CandyMakes': WHATEVER THE INPUT: true; the input reads as it did. -/
def candyMakesSpec : ChangeSpec := { name := "candyMakes", fn := fun _ => fun
  | [d1, d2, d3] => { results := [.lit (.bool true)], args := [d1, d2, d3] }
  | _ => none }
def candyMakesRow : OpenClaim := { program := "ytgklpbgdimkhaaagreat", sum := "9f265c41880f033217b9a75bfe62afa5916f9c733062069526aa378736bcf04b", func := "spile/spilelaw11.CandyMakes", spec := "candyMakes", unfollowed := true, recurses := true, named := ["math/bits.divideError", "math/bits.overflowError"], apart := false }
def CandyMakesSaid : Prop := candyMakesRow.holds Tryz.pinned (OpenSpec.ofChange candyMakesSpec)

/-- ITS FALSE NEIGHBOUR: 'it returns false'. Refute it at one input. -/
def candyMakesWrong : ChangeSpec := { name := "candyMakes", fn := fun _ => fun
  | [d1, d2, d3] => { results := [.lit (.bool false)], args := [d1, d2, d3] }
  | _ => none }
def CandyMakesWrongFalsely : Prop := candyMakesRow.holds Tryz.pinned (OpenSpec.ofChange candyMakesWrong)

/-- 'spilelaw11.CandyProducts': WHATEVER THE INPUT: true; the input reads as it did. -/
def candyProductsSpec : ChangeSpec := { name := "candyProducts", fn := fun _ => fun
  | [d1, d2, d3] => { results := [.lit (.bool true)], args := [d1, d2, d3] }
  | _ => none }
def candyProductsRow : OpenClaim := { program := "ytgklpbgdimkhaaagreat", sum := "9f265c41880f033217b9a75bfe62afa5916f9c733062069526aa378736bcf04b", func := "spile/spilelaw11.CandyProducts", spec := "candyProducts", unfollowed := true, recurses := true, named := ["math/bits.divideError", "math/bits.overflowError"], apart := false }
def CandyProductsSaid : Prop := candyProductsRow.holds Tryz.pinned (OpenSpec.ofChange candyProductsSpec)

/-- ITS FALSE NEIGHBOUR: 'it returns false'. Refute it at one input. -/
def candyProductsWrong : ChangeSpec := { name := "candyProducts", fn := fun _ => fun
  | [d1, d2, d3] => { results := [.lit (.bool false)], args := [d1, d2, d3] }
  | _ => none }
def CandyProductsWrongFalsely : Prop := candyProductsRow.holds Tryz.pinned (OpenSpec.ofChange candyProductsWrong)

/-- 'spilelaw11.CandyOrders': WHATEVER THE INPUT: true; the input reads as it did. -/
def candyOrdersSpec : ChangeSpec := { name := "candyOrders", fn := fun _ => fun
  | [d1, d2, d3] => { results := [.lit (.bool true)], args := [d1, d2, d3] }
  | _ => none }
def candyOrdersRow : OpenClaim := { program := "ytgklpbgdimkhaaagreat", sum := "9f265c41880f033217b9a75bfe62afa5916f9c733062069526aa378736bcf04b", func := "spile/spilelaw11.CandyOrders", spec := "candyOrders", unfollowed := true, recurses := true, named := ["math/bits.divideError", "math/bits.overflowError"], apart := false }
def CandyOrdersSaid : Prop := candyOrdersRow.holds Tryz.pinned (OpenSpec.ofChange candyOrdersSpec)

/-- ITS FALSE NEIGHBOUR: 'it returns false'. Refute it at one input. -/
def candyOrdersWrong : ChangeSpec := { name := "candyOrders", fn := fun _ => fun
  | [d1, d2, d3] => { results := [.lit (.bool false)], args := [d1, d2, d3] }
  | _ => none }
def CandyOrdersWrongFalsely : Prop := candyOrdersRow.holds Tryz.pinned (OpenSpec.ofChange candyOrdersWrong)

/-- 'spilelaw11.CandyTruths': WHATEVER THE INPUT: true; the input reads as it did. -/
def candyTruthsSpec : ChangeSpec := { name := "candyTruths", fn := fun _ => fun
  | [d1, d2, d3] => { results := [.lit (.bool true)], args := [d1, d2, d3] }
  | _ => none }
def candyTruthsRow : OpenClaim := { program := "ytgklpbgdimkhaaagreat", sum := "9f265c41880f033217b9a75bfe62afa5916f9c733062069526aa378736bcf04b", func := "spile/spilelaw11.CandyTruths", spec := "candyTruths", unfollowed := true, recurses := true, named := ["math/bits.divideError", "math/bits.overflowError"], apart := false }
def CandyTruthsSaid : Prop := candyTruthsRow.holds Tryz.pinned (OpenSpec.ofChange candyTruthsSpec)

/-- ITS FALSE NEIGHBOUR: 'it returns false'. Refute it at one input. -/
def candyTruthsWrong : ChangeSpec := { name := "candyTruths", fn := fun _ => fun
  | [d1, d2, d3] => { results := [.lit (.bool false)], args := [d1, d2, d3] }
  | _ => none }
def CandyTruthsWrongFalsely : Prop := candyTruthsRow.holds Tryz.pinned (OpenSpec.ofChange candyTruthsWrong)

/-- 'spilelaw11.CandyHotter': WHATEVER THE INPUT: true; the input reads as it did. -/
def candyHotterSpec : ChangeSpec := { name := "candyHotter", fn := fun _ => fun
  | [d1, d2, d3] => { results := [.lit (.bool true)], args := [d1, d2, d3] }
  | _ => none }
def candyHotterRow : OpenClaim := { program := "ytgklpbgdimkhaaagreat", sum := "9f265c41880f033217b9a75bfe62afa5916f9c733062069526aa378736bcf04b", func := "spile/spilelaw11.CandyHotter", spec := "candyHotter", unfollowed := true, recurses := true, named := ["math/bits.divideError", "math/bits.overflowError"], apart := false }
def CandyHotterSaid : Prop := candyHotterRow.holds Tryz.pinned (OpenSpec.ofChange candyHotterSpec)

/-- ITS FALSE NEIGHBOUR: 'it returns false'. Refute it at one input. -/
def candyHotterWrong : ChangeSpec := { name := "candyHotter", fn := fun _ => fun
  | [d1, d2, d3] => { results := [.lit (.bool false)], args := [d1, d2, d3] }
  | _ => none }
def CandyHotterWrongFalsely : Prop := candyHotterRow.holds Tryz.pinned (OpenSpec.ofChange candyHotterWrong)

/-- 'spilelaw11.CandyBest': WHATEVER THE INPUT: true; the input reads as it did. -/
def candyBestSpec : ChangeSpec := { name := "candyBest", fn := fun _ => fun
  | [d1, d2, d3] => { results := [.lit (.bool true)], args := [d1, d2, d3] }
  | _ => none }
def candyBestRow : OpenClaim := { program := "ytgklpbgdimkhaaagreat", sum := "9f265c41880f033217b9a75bfe62afa5916f9c733062069526aa378736bcf04b", func := "spile/spilelaw11.CandyBest", spec := "candyBest", unfollowed := true, recurses := true, named := ["math/bits.divideError", "math/bits.overflowError"], apart := false }
def CandyBestSaid : Prop := candyBestRow.holds Tryz.pinned (OpenSpec.ofChange candyBestSpec)

/-- ITS FALSE NEIGHBOUR: 'it returns false'. Refute it at one input. -/
def candyBestWrong : ChangeSpec := { name := "candyBest", fn := fun _ => fun
  | [d1, d2, d3] => { results := [.lit (.bool false)], args := [d1, d2, d3] }
  | _ => none }
def CandyBestWrongFalsely : Prop := candyBestRow.holds Tryz.pinned (OpenSpec.ofChange candyBestWrong)

/- THE SECOND FORM. 'bulk': how many values and letters a reading holds, each counted each time it is reached (what is shared counts as often as it is met; a slice's spare places count too). A statement '..UptoSaid' is the law's where the arguments, and the package variables that the reading takes, are together of bulk at most 1048576: NARROWER than '..Said'. Prove '..Said' where nothing that the law and all that it calls make is longer than what came in: it says more and counts as full. Else prove '..UptoSaid'. A law counts once. -/
mutual
def uptoBulk {H : Type} : DataW H → Nat
  | .lit (.string bytes) => bytes.length + 1
  | .lit _ => 1
  | .nil => 1
  | .ptr d => uptoBulk d + 1
  | .slice elems spare => uptoBulkAll elems + uptoBulkAll spare + 1
  | .agg parts => uptoBulkAll parts + 1
  | .iface _ d => uptoBulk d + 1
  | .map entries => uptoBulkEntries entries + 1
  | .held _ => 1
def uptoBulkAll {H : Type} : List (DataW H) → Nat
  | [] => 0
  | d :: r => uptoBulk d + uptoBulkAll r
def uptoBulkEntries {H : Type} : List (Lit × DataW H) → Nat
  | [] => 0
  | x :: r => uptoBulkEntry x + uptoBulkEntries r
def uptoBulkEntry {H : Type} : Lit × DataW H → Nat
  | (.string bytes, d) => bytes.length + uptoBulk d + 1
  | (_, d) => uptoBulk d + 1
 end
def uptoSmall : (H : Type) → List (DataW H) → Bool := fun _ ds => decide (uptoBulkAll ds ≤ 1048576)
def OpenSpec.upto (s : _root_.Go.ChangeSpec) : _root_.Go.OpenSpec := { _root_.Go.OpenSpec.ofChange s with cond := some uptoSmall }

/-- 'spilelaw11.CandyTells', WHERE WHAT IT READS IS OF BULK AT MOST 1048576: true; the input reads as it did. -/
def candyTellsUptoRow : OpenClaim := { program := "ytgklpbgdimkhaaagreat", sum := "9f265c41880f033217b9a75bfe62afa5916f9c733062069526aa378736bcf04b", func := "spile/spilelaw11.CandyTells", spec := "candyTells", unfollowed := true, recurses := true, named := ["math/bits.divideError", "math/bits.overflowError"], apart := false, narrowed := true }
def CandyTellsUptoSaid : Prop := candyTellsUptoRow.holds Tryz.pinned (OpenSpec.upto candyTellsSpec)

/-- 'spilelaw11.CandyMakes', WHERE WHAT IT READS IS OF BULK AT MOST 1048576: true; the input reads as it did. -/
def candyMakesUptoRow : OpenClaim := { program := "ytgklpbgdimkhaaagreat", sum := "9f265c41880f033217b9a75bfe62afa5916f9c733062069526aa378736bcf04b", func := "spile/spilelaw11.CandyMakes", spec := "candyMakes", unfollowed := true, recurses := true, named := ["math/bits.divideError", "math/bits.overflowError"], apart := false, narrowed := true }
def CandyMakesUptoSaid : Prop := candyMakesUptoRow.holds Tryz.pinned (OpenSpec.upto candyMakesSpec)

/-- 'spilelaw11.CandyProducts', WHERE WHAT IT READS IS OF BULK AT MOST 1048576: true; the input reads as it did. -/
def candyProductsUptoRow : OpenClaim := { program := "ytgklpbgdimkhaaagreat", sum := "9f265c41880f033217b9a75bfe62afa5916f9c733062069526aa378736bcf04b", func := "spile/spilelaw11.CandyProducts", spec := "candyProducts", unfollowed := true, recurses := true, named := ["math/bits.divideError", "math/bits.overflowError"], apart := false, narrowed := true }
def CandyProductsUptoSaid : Prop := candyProductsUptoRow.holds Tryz.pinned (OpenSpec.upto candyProductsSpec)

/-- 'spilelaw11.CandyOrders', WHERE WHAT IT READS IS OF BULK AT MOST 1048576: true; the input reads as it did. -/
def candyOrdersUptoRow : OpenClaim := { program := "ytgklpbgdimkhaaagreat", sum := "9f265c41880f033217b9a75bfe62afa5916f9c733062069526aa378736bcf04b", func := "spile/spilelaw11.CandyOrders", spec := "candyOrders", unfollowed := true, recurses := true, named := ["math/bits.divideError", "math/bits.overflowError"], apart := false, narrowed := true }
def CandyOrdersUptoSaid : Prop := candyOrdersUptoRow.holds Tryz.pinned (OpenSpec.upto candyOrdersSpec)

/-- 'spilelaw11.CandyTruths', WHERE WHAT IT READS IS OF BULK AT MOST 1048576: true; the input reads as it did. -/
def candyTruthsUptoRow : OpenClaim := { program := "ytgklpbgdimkhaaagreat", sum := "9f265c41880f033217b9a75bfe62afa5916f9c733062069526aa378736bcf04b", func := "spile/spilelaw11.CandyTruths", spec := "candyTruths", unfollowed := true, recurses := true, named := ["math/bits.divideError", "math/bits.overflowError"], apart := false, narrowed := true }
def CandyTruthsUptoSaid : Prop := candyTruthsUptoRow.holds Tryz.pinned (OpenSpec.upto candyTruthsSpec)

/-- 'spilelaw11.CandyHotter', WHERE WHAT IT READS IS OF BULK AT MOST 1048576: true; the input reads as it did. -/
def candyHotterUptoRow : OpenClaim := { program := "ytgklpbgdimkhaaagreat", sum := "9f265c41880f033217b9a75bfe62afa5916f9c733062069526aa378736bcf04b", func := "spile/spilelaw11.CandyHotter", spec := "candyHotter", unfollowed := true, recurses := true, named := ["math/bits.divideError", "math/bits.overflowError"], apart := false, narrowed := true }
def CandyHotterUptoSaid : Prop := candyHotterUptoRow.holds Tryz.pinned (OpenSpec.upto candyHotterSpec)

/-- 'spilelaw11.CandyBest', WHERE WHAT IT READS IS OF BULK AT MOST 1048576: true; the input reads as it did. -/
def candyBestUptoRow : OpenClaim := { program := "ytgklpbgdimkhaaagreat", sum := "9f265c41880f033217b9a75bfe62afa5916f9c733062069526aa378736bcf04b", func := "spile/spilelaw11.CandyBest", spec := "candyBest", unfollowed := true, recurses := true, named := ["math/bits.divideError", "math/bits.overflowError"], apart := false, narrowed := true }
def CandyBestUptoSaid : Prop := candyBestUptoRow.holds Tryz.pinned (OpenSpec.upto candyBestSpec)

end Rows
end Go.Proofs.YtgklpbgdimkhaaaGreat
