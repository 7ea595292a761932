/-
  No cell of these rows narrows 'for every input' (looked for: loops, veiled, ifaces, maps, wideKeys, modest, calm, conditions, laid).
  DERIVED. THE GIVEN ROWS OF THIS SEAT. 6 by the template 'for every input the law returns true; each argument reads behind the call as it read before'; 0 by the template 'total and deterministic' (their statements: YtdlmkjllcejoaaaTotals.lean).
  GIVEN WITH THE SEED: the statements are not yours to turn. If you find one false, say at which input.
  Laid BY PROGRAM, IN A SANDBOX (cutbox-rows.mjs): the forced cells as the released guide's own fill.sh prints them over the translation 1e76d6c5a8b55e10… (all of the seat's roots in one cut). By AI agents, Wed Nov 11 2026. No macro, syntax, notation, axiom, sorry.
-/
import Derived.Test.YtdlmkjllcejoaaaChecked
import GoSem.Claim
import GoSem.ClaimJoined
import GoSem.ClaimMapViews
import Derived.JoinedTies
import Derived.KernelRfl
namespace Go.Proofs.Ytdlmkjllcejoaaa
/- THE CELL 'sum', in the pinned program and in every row, IS THE sha256 OF THE DUMP (.gsa) THAT YtdlmkjllcejoaaaProg.lean LOADS. Nothing in Lean hashes anything: it is a label: what it is worth is what the hold of that sum in a sandbox is worth. -/
noncomputable def Try.pinned : Pinned := { name := "ytdlmkjllcejoaaa", sum := "1e76d6c5a8b55e106048eed5f536225fd60c2e802be46a5cecbfd62f6fa7dd3c", checked := Try.checked }
namespace Rows
def none {H : Type} : Left H := { results := [], args := [] }

/-- 'spilelaw06.VatKeeps': WHATEVER THE INPUT: true; the input reads as it did. -/
def vatKeepsSpec : ChangeSpec := { name := "vatKeeps", fn := fun _ => fun
  | [d1, d2, d3] => { results := [.lit (.bool true)], args := [d1, d2, d3] }
  | _ => none }
def vatKeepsRow : OpenClaim := { program := "ytdlmkjllcejoaaa", sum := "1e76d6c5a8b55e106048eed5f536225fd60c2e802be46a5cecbfd62f6fa7dd3c", func := "spile/spilelaw06.VatKeeps", spec := "vatKeeps", inPlace := ["slices.overlaps[spile/vat.lot]"], unfollowed := true, recurses := true, named := ["math/bits.divideError", "math/bits.overflowError"], apart := false }
def VatKeepsSaid : Prop := vatKeepsRow.holds Try.pinned (OpenSpec.ofChange vatKeepsSpec)

/-- ITS FALSE NEIGHBOUR: 'it returns false'. Refute it at one input. -/
def vatKeepsWrong : ChangeSpec := { name := "vatKeeps", fn := fun _ => fun
  | [d1, d2, d3] => { results := [.lit (.bool false)], args := [d1, d2, d3] }
  | _ => none }
def VatKeepsWrongFalsely : Prop := vatKeepsRow.holds Try.pinned (OpenSpec.ofChange vatKeepsWrong)

/-- 'spilelaw06.VatReaches': WHATEVER THE INPUT: true; the input reads as it did. -/
def vatReachesSpec : ChangeSpec := { name := "vatReaches", fn := fun _ => fun
  | [d1, d2, d3] => { results := [.lit (.bool true)], args := [d1, d2, d3] }
  | _ => none }
def vatReachesRow : OpenClaim := { program := "ytdlmkjllcejoaaa", sum := "1e76d6c5a8b55e106048eed5f536225fd60c2e802be46a5cecbfd62f6fa7dd3c", func := "spile/spilelaw06.VatReaches", spec := "vatReaches", inPlace := ["slices.overlaps[spile/vat.lot]"], unfollowed := true, recurses := true, named := ["math/bits.divideError", "math/bits.overflowError"], apart := false }
def VatReachesSaid : Prop := vatReachesRow.holds Try.pinned (OpenSpec.ofChange vatReachesSpec)

/-- ITS FALSE NEIGHBOUR: 'it returns false'. Refute it at one input. -/
def vatReachesWrong : ChangeSpec := { name := "vatReaches", fn := fun _ => fun
  | [d1, d2, d3] => { results := [.lit (.bool false)], args := [d1, d2, d3] }
  | _ => none }
def VatReachesWrongFalsely : Prop := vatReachesRow.holds Try.pinned (OpenSpec.ofChange vatReachesWrong)

/-- 'spilelaw06.VatAdds': WHATEVER THE INPUT: true; the input reads as it did. -/
def vatAddsSpec : ChangeSpec := { name := "vatAdds", fn := fun _ => fun
  | [d1, d2, d3] => { results := [.lit (.bool true)], args := [d1, d2, d3] }
  | _ => none }
def vatAddsRow : OpenClaim := { program := "ytdlmkjllcejoaaa", sum := "1e76d6c5a8b55e106048eed5f536225fd60c2e802be46a5cecbfd62f6fa7dd3c", func := "spile/spilelaw06.VatAdds", spec := "vatAdds", inPlace := ["slices.overlaps[spile/vat.lot]"], unfollowed := true, recurses := true, named := ["math/bits.divideError", "math/bits.overflowError"], apart := false }
def VatAddsSaid : Prop := vatAddsRow.holds Try.pinned (OpenSpec.ofChange vatAddsSpec)

/-- ITS FALSE NEIGHBOUR: 'it returns false'. Refute it at one input. -/
def vatAddsWrong : ChangeSpec := { name := "vatAdds", fn := fun _ => fun
  | [d1, d2, d3] => { results := [.lit (.bool false)], args := [d1, d2, d3] }
  | _ => none }
def VatAddsWrongFalsely : Prop := vatAddsRow.holds Try.pinned (OpenSpec.ofChange vatAddsWrong)

/-- 'spilelaw07.PanNeighbours': WHATEVER THE INPUT: true; the input reads as it did. -/
def panNeighboursSpec : ChangeSpec := { name := "panNeighbours", fn := fun _ => fun
  | [d] => { results := [.lit (.bool true)], args := [d] }
  | _ => none }
def panNeighboursRow : OpenClaim := { program := "ytdlmkjllcejoaaa", sum := "1e76d6c5a8b55e106048eed5f536225fd60c2e802be46a5cecbfd62f6fa7dd3c", func := "spile/spilelaw07.PanNeighbours", spec := "panNeighbours", unfollowed := true, recurses := true, named := ["math/bits.divideError", "math/bits.overflowError"], apart := false }
def PanNeighboursSaid : Prop := panNeighboursRow.holds Try.pinned (OpenSpec.ofChange panNeighboursSpec)

/-- ITS FALSE NEIGHBOUR: 'it returns false'. Refute it at one input. -/
def panNeighboursWrong : ChangeSpec := { name := "panNeighbours", fn := fun _ => fun
  | [d] => { results := [.lit (.bool false)], args := [d] }
  | _ => none }
def PanNeighboursWrongFalsely : Prop := panNeighboursRow.holds Try.pinned (OpenSpec.ofChange panNeighboursWrong)

/-- 'spilelaw07.PanNever': WHATEVER THE INPUT: true; the input reads as it did. -/
def panNeverSpec : ChangeSpec := { name := "panNever", fn := fun _ => fun
  | [d1, d2] => { results := [.lit (.bool true)], args := [d1, d2] }
  | _ => none }
def panNeverRow : OpenClaim := { program := "ytdlmkjllcejoaaa", sum := "1e76d6c5a8b55e106048eed5f536225fd60c2e802be46a5cecbfd62f6fa7dd3c", func := "spile/spilelaw07.PanNever", spec := "panNever", unfollowed := true, recurses := true, named := ["math/bits.divideError", "math/bits.overflowError"], apart := false }
def PanNeverSaid : Prop := panNeverRow.holds Try.pinned (OpenSpec.ofChange panNeverSpec)

/-- ITS FALSE NEIGHBOUR: 'it returns false'. Refute it at one input. -/
def panNeverWrong : ChangeSpec := { name := "panNever", fn := fun _ => fun
  | [d1, d2] => { results := [.lit (.bool false)], args := [d1, d2] }
  | _ => none }
def PanNeverWrongFalsely : Prop := panNeverRow.holds Try.pinned (OpenSpec.ofChange panNeverWrong)

/-- 'spiletop.TopBoiledPan': WHATEVER THE INPUT: true; the input reads as it did. -/
def topBoiledPanSpec : ChangeSpec := { name := "topBoiledPan", fn := fun _ => fun
  | [d1, d2, d3] => { results := [.lit (.bool true)], args := [d1, d2, d3] }
  | _ => none }
def topBoiledPanRow : OpenClaim := { program := "ytdlmkjllcejoaaa", sum := "1e76d6c5a8b55e106048eed5f536225fd60c2e802be46a5cecbfd62f6fa7dd3c", func := "spile/spiletop.TopBoiledPan", spec := "topBoiledPan", unfollowed := true, recurses := true, named := ["math/bits.divideError", "math/bits.overflowError"], apart := false }
def TopBoiledPanSaid : Prop := topBoiledPanRow.holds Try.pinned (OpenSpec.ofChange topBoiledPanSpec)

/-- ITS FALSE NEIGHBOUR: 'it returns false'. Refute it at one input. -/
def topBoiledPanWrong : ChangeSpec := { name := "topBoiledPan", fn := fun _ => fun
  | [d1, d2, d3] => { results := [.lit (.bool false)], args := [d1, d2, d3] }
  | _ => none }
def TopBoiledPanWrongFalsely : Prop := topBoiledPanRow.holds Try.pinned (OpenSpec.ofChange topBoiledPanWrong)

/- THE SECOND FORM. 'bulk': how many values and letters a reading holds, each counted each time it is reached (what is shared counts as often as it is met; a slice's spare places count too). A statement '..UptoSaid' is the law's where the arguments, and the package variables that the reading takes, are together of bulk at most 1048576: NARROWER than '..Said'. Prove '..Said' where nothing that the law and all that it calls make is longer than what came in: it says more and counts as full. Else prove '..UptoSaid'. A law counts once. -/
mutual
def uptoBulk {H : Type} : DataW H → Nat
  | .lit (.string bytes) => bytes.length + 1
  | .lit _ => 1
  | .nil => 1
  | .ptr d => uptoBulk d + 1
  | .slice elems spare => uptoBulkAll elems + uptoBulkAll spare + 1
  | .agg parts => uptoBulkAll parts + 1
  | .iface _ d => uptoBulk d + 1
  | .map entries => uptoBulkEntries entries + 1
  | .held _ => 1
def uptoBulkAll {H : Type} : List (DataW H) → Nat
  | [] => 0
  | d :: r => uptoBulk d + uptoBulkAll r
def uptoBulkEntries {H : Type} : List (Lit × DataW H) → Nat
  | [] => 0
  | x :: r => uptoBulkEntry x + uptoBulkEntries r
def uptoBulkEntry {H : Type} : Lit × DataW H → Nat
  | (.string bytes, d) => bytes.length + uptoBulk d + 1
  | (_, d) => uptoBulk d + 1
 end
def uptoSmall : (H : Type) → List (DataW H) → Bool := fun _ ds => decide (uptoBulkAll ds ≤ 1048576)
def OpenSpec.upto (s : _root_.Go.ChangeSpec) : _root_.Go.OpenSpec := { _root_.Go.OpenSpec.ofChange s with cond := some uptoSmall }

/-- 'spilelaw06.VatKeeps', WHERE WHAT IT READS IS OF BULK AT MOST 1048576: true; the input reads as it did. -/
def vatKeepsUptoRow : OpenClaim := { program := "ytdlmkjllcejoaaa", sum := "1e76d6c5a8b55e106048eed5f536225fd60c2e802be46a5cecbfd62f6fa7dd3c", func := "spile/spilelaw06.VatKeeps", spec := "vatKeeps", inPlace := ["slices.overlaps[spile/vat.lot]"], unfollowed := true, recurses := true, named := ["math/bits.divideError", "math/bits.overflowError"], apart := false, narrowed := true }
def VatKeepsUptoSaid : Prop := vatKeepsUptoRow.holds Try.pinned (OpenSpec.upto vatKeepsSpec)

/-- 'spilelaw06.VatReaches', WHERE WHAT IT READS IS OF BULK AT MOST 1048576: true; the input reads as it did. -/
def vatReachesUptoRow : OpenClaim := { program := "ytdlmkjllcejoaaa", sum := "1e76d6c5a8b55e106048eed5f536225fd60c2e802be46a5cecbfd62f6fa7dd3c", func := "spile/spilelaw06.VatReaches", spec := "vatReaches", inPlace := ["slices.overlaps[spile/vat.lot]"], unfollowed := true, recurses := true, named := ["math/bits.divideError", "math/bits.overflowError"], apart := false, narrowed := true }
def VatReachesUptoSaid : Prop := vatReachesUptoRow.holds Try.pinned (OpenSpec.upto vatReachesSpec)

/-- 'spilelaw06.VatAdds', WHERE WHAT IT READS IS OF BULK AT MOST 1048576: true; the input reads as it did. -/
def vatAddsUptoRow : OpenClaim := { program := "ytdlmkjllcejoaaa", sum := "1e76d6c5a8b55e106048eed5f536225fd60c2e802be46a5cecbfd62f6fa7dd3c", func := "spile/spilelaw06.VatAdds", spec := "vatAdds", inPlace := ["slices.overlaps[spile/vat.lot]"], unfollowed := true, recurses := true, named := ["math/bits.divideError", "math/bits.overflowError"], apart := false, narrowed := true }
def VatAddsUptoSaid : Prop := vatAddsUptoRow.holds Try.pinned (OpenSpec.upto vatAddsSpec)

/-- 'spilelaw07.PanNeighbours', WHERE WHAT IT READS IS OF BULK AT MOST 1048576: true; the input reads as it did. -/
def panNeighboursUptoRow : OpenClaim := { program := "ytdlmkjllcejoaaa", sum := "1e76d6c5a8b55e106048eed5f536225fd60c2e802be46a5cecbfd62f6fa7dd3c", func := "spile/spilelaw07.PanNeighbours", spec := "panNeighbours", unfollowed := true, recurses := true, named := ["math/bits.divideError", "math/bits.overflowError"], apart := false, narrowed := true }
def PanNeighboursUptoSaid : Prop := panNeighboursUptoRow.holds Try.pinned (OpenSpec.upto panNeighboursSpec)

/-- 'spilelaw07.PanNever', WHERE WHAT IT READS IS OF BULK AT MOST 1048576: true; the input reads as it did. -/
def panNeverUptoRow : OpenClaim := { program := "ytdlmkjllcejoaaa", sum := "1e76d6c5a8b55e106048eed5f536225fd60c2e802be46a5cecbfd62f6fa7dd3c", func := "spile/spilelaw07.PanNever", spec := "panNever", unfollowed := true, recurses := true, named := ["math/bits.divideError", "math/bits.overflowError"], apart := false, narrowed := true }
def PanNeverUptoSaid : Prop := panNeverUptoRow.holds Try.pinned (OpenSpec.upto panNeverSpec)

/-- 'spiletop.TopBoiledPan', WHERE WHAT IT READS IS OF BULK AT MOST 1048576: true; the input reads as it did. -/
def topBoiledPanUptoRow : OpenClaim := { program := "ytdlmkjllcejoaaa", sum := "1e76d6c5a8b55e106048eed5f536225fd60c2e802be46a5cecbfd62f6fa7dd3c", func := "spile/spiletop.TopBoiledPan", spec := "topBoiledPan", unfollowed := true, recurses := true, named := ["math/bits.divideError", "math/bits.overflowError"], apart := false, narrowed := true }
def TopBoiledPanUptoSaid : Prop := topBoiledPanUptoRow.holds Try.pinned (OpenSpec.upto topBoiledPanSpec)

end Rows
end Go.Proofs.Ytdlmkjllcejoaaa
