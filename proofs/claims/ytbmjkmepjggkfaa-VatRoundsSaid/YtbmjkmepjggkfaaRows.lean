/-
  No cell of these rows narrows 'for every input' (looked for: loops, veiled, ifaces, maps, wideKeys, modest, calm, conditions, laid).
  DERIVED. THE GIVEN ROWS OF THIS SEAT. 9 by the template 'for every input the law returns true; each argument reads behind the call as it read before'; 0 by the template 'total and deterministic' (their statements: YtbmjkmepjggkfaaTotals.lean).
  GIVEN WITH THE SEED: the statements are not yours to turn. If you find one false, say at which input.
  Laid BY PROGRAM, IN A SANDBOX (cutbox-rows.mjs): the forced cells as the released guide's own fill.sh prints them over the translation 5914bf0559a7c3d6… (all of the seat's roots in one cut). By AI agents, Wed Nov 11 2026. No macro, syntax, notation, axiom, sorry.
-/
import Derived.Test.YtbmjkmepjggkfaaChecked
import GoSem.Claim
import GoSem.ClaimJoined
import GoSem.ClaimMapViews
import Derived.JoinedTies
import Derived.KernelRfl
namespace Go.Proofs.Ytbmjkmepjggkfaa
/- THE CELL 'sum', in the pinned program and in every row, IS THE sha256 OF THE DUMP (.gsa) THAT YtbmjkmepjggkfaaProg.lean LOADS. Nothing in Lean hashes anything: it is a label: what it is worth is what the hold of that sum in a sandbox is worth. -/
noncomputable def Try.pinned : Pinned := { name := "ytbmjkmepjggkfaa", sum := "5914bf0559a7c3d6deabe7a7064ef53bfba0fef11e5ed142a1f38552ca3c72bd", checked := Try.checked }
namespace Rows
def none {H : Type} : Left H := { results := [], args := [] }

/-- 'spilelaw06.VatKeeps': WHATEVER THE INPUT: true; the input reads as it did. -/
def vatKeepsSpec : ChangeSpec := { name := "vatKeeps", fn := fun _ => fun
  | [d1, d2, d3] => { results := [.lit (.bool true)], args := [d1, d2, d3] }
  | _ => none }
def vatKeepsRow : OpenClaim := { program := "ytbmjkmepjggkfaa", sum := "5914bf0559a7c3d6deabe7a7064ef53bfba0fef11e5ed142a1f38552ca3c72bd", func := "spile/spilelaw06.VatKeeps", spec := "vatKeeps", inPlace := ["slices.overlaps[spile/vat.lot]"], unfollowed := true, recurses := true, named := ["math/bits.divideError", "math/bits.overflowError"], apart := false }
def VatKeepsSaid : Prop := vatKeepsRow.holds Try.pinned (OpenSpec.ofChange vatKeepsSpec)

/-- ITS FALSE NEIGHBOUR: 'it returns false'. Refute it at one input. -/
def vatKeepsWrong : ChangeSpec := { name := "vatKeeps", fn := fun _ => fun
  | [d1, d2, d3] => { results := [.lit (.bool false)], args := [d1, d2, d3] }
  | _ => none }
def VatKeepsWrongFalsely : Prop := vatKeepsRow.holds Try.pinned (OpenSpec.ofChange vatKeepsWrong)

/-- 'spilelaw06.VatRounds': WHATEVER THE INPUT: true; the input reads as it did. -/
def vatRoundsSpec : ChangeSpec := { name := "vatRounds", fn := fun _ => fun
  | [d1, d2] => { results := [.lit (.bool true)], args := [d1, d2] }
  | _ => none }
def vatRoundsRow : OpenClaim := { program := "ytbmjkmepjggkfaa", sum := "5914bf0559a7c3d6deabe7a7064ef53bfba0fef11e5ed142a1f38552ca3c72bd", func := "spile/spilelaw06.VatRounds", spec := "vatRounds", inPlace := ["slices.overlaps[spile/vat.lot]"], unfollowed := true, recurses := true, named := ["math/bits.divideError", "math/bits.overflowError"], apart := false }
def VatRoundsSaid : Prop := vatRoundsRow.holds Try.pinned (OpenSpec.ofChange vatRoundsSpec)

/-- ITS FALSE NEIGHBOUR: 'it returns false'. Refute it at one input. -/
def vatRoundsWrong : ChangeSpec := { name := "vatRounds", fn := fun _ => fun
  | [d1, d2] => { results := [.lit (.bool false)], args := [d1, d2] }
  | _ => none }
def VatRoundsWrongFalsely : Prop := vatRoundsRow.holds Try.pinned (OpenSpec.ofChange vatRoundsWrong)

/-- 'spilelaw06.VatReaches': WHATEVER THE INPUT: true; the input reads as it did. -/
def vatReachesSpec : ChangeSpec := { name := "vatReaches", fn := fun _ => fun
  | [d1, d2, d3] => { results := [.lit (.bool true)], args := [d1, d2, d3] }
  | _ => none }
def vatReachesRow : OpenClaim := { program := "ytbmjkmepjggkfaa", sum := "5914bf0559a7c3d6deabe7a7064ef53bfba0fef11e5ed142a1f38552ca3c72bd", func := "spile/spilelaw06.VatReaches", spec := "vatReaches", inPlace := ["slices.overlaps[spile/vat.lot]"], unfollowed := true, recurses := true, named := ["math/bits.divideError", "math/bits.overflowError"], apart := false }
def VatReachesSaid : Prop := vatReachesRow.holds Try.pinned (OpenSpec.ofChange vatReachesSpec)

/-- ITS FALSE NEIGHBOUR: 'it returns false'. Refute it at one input. -/
def vatReachesWrong : ChangeSpec := { name := "vatReaches", fn := fun _ => fun
  | [d1, d2, d3] => { results := [.lit (.bool false)], args := [d1, d2, d3] }
  | _ => none }
def VatReachesWrongFalsely : Prop := vatReachesRow.holds Try.pinned (OpenSpec.ofChange vatReachesWrong)

/-- 'spilelaw06.VatGrams': WHATEVER THE INPUT: true; the input reads as it did. -/
def vatGramsSpec : ChangeSpec := { name := "vatGrams", fn := fun _ => fun
  | [d] => { results := [.lit (.bool true)], args := [d] }
  | _ => none }
def vatGramsRow : OpenClaim := { program := "ytbmjkmepjggkfaa", sum := "5914bf0559a7c3d6deabe7a7064ef53bfba0fef11e5ed142a1f38552ca3c72bd", func := "spile/spilelaw06.VatGrams", spec := "vatGrams", inPlace := ["slices.overlaps[spile/vat.lot]"], unfollowed := true, recurses := true, named := ["math/bits.divideError", "math/bits.overflowError"], apart := false }
def VatGramsSaid : Prop := vatGramsRow.holds Try.pinned (OpenSpec.ofChange vatGramsSpec)

/-- ITS FALSE NEIGHBOUR: 'it returns false'. Refute it at one input. -/
def vatGramsWrong : ChangeSpec := { name := "vatGrams", fn := fun _ => fun
  | [d] => { results := [.lit (.bool false)], args := [d] }
  | _ => none }
def VatGramsWrongFalsely : Prop := vatGramsRow.holds Try.pinned (OpenSpec.ofChange vatGramsWrong)

/-- 'spilelaw06.VatOldest': WHATEVER THE INPUT: true; the input reads as it did. -/
def vatOldestSpec : ChangeSpec := { name := "vatOldest", fn := fun _ => fun
  | [d] => { results := [.lit (.bool true)], args := [d] }
  | _ => none }
def vatOldestRow : OpenClaim := { program := "ytbmjkmepjggkfaa", sum := "5914bf0559a7c3d6deabe7a7064ef53bfba0fef11e5ed142a1f38552ca3c72bd", func := "spile/spilelaw06.VatOldest", spec := "vatOldest", inPlace := ["slices.overlaps[spile/vat.lot]"], unfollowed := true, recurses := true, named := ["math/bits.divideError", "math/bits.overflowError"], apart := false }
def VatOldestSaid : Prop := vatOldestRow.holds Try.pinned (OpenSpec.ofChange vatOldestSpec)

/-- ITS FALSE NEIGHBOUR: 'it returns false'. Refute it at one input. -/
def vatOldestWrong : ChangeSpec := { name := "vatOldest", fn := fun _ => fun
  | [d] => { results := [.lit (.bool false)], args := [d] }
  | _ => none }
def VatOldestWrongFalsely : Prop := vatOldestRow.holds Try.pinned (OpenSpec.ofChange vatOldestWrong)

/-- 'spilelaw06.VatTruths': WHATEVER THE INPUT: true; the input reads as it did. -/
def vatTruthsSpec : ChangeSpec := { name := "vatTruths", fn := fun _ => fun
  | [d1, d2] => { results := [.lit (.bool true)], args := [d1, d2] }
  | _ => none }
def vatTruthsRow : OpenClaim := { program := "ytbmjkmepjggkfaa", sum := "5914bf0559a7c3d6deabe7a7064ef53bfba0fef11e5ed142a1f38552ca3c72bd", func := "spile/spilelaw06.VatTruths", spec := "vatTruths", inPlace := ["slices.overlaps[spile/vat.lot]"], unfollowed := true, recurses := true, named := ["math/bits.divideError", "math/bits.overflowError"], apart := false }
def VatTruthsSaid : Prop := vatTruthsRow.holds Try.pinned (OpenSpec.ofChange vatTruthsSpec)

/-- ITS FALSE NEIGHBOUR: 'it returns false'. Refute it at one input. -/
def vatTruthsWrong : ChangeSpec := { name := "vatTruths", fn := fun _ => fun
  | [d1, d2] => { results := [.lit (.bool false)], args := [d1, d2] }
  | _ => none }
def VatTruthsWrongFalsely : Prop := vatTruthsRow.holds Try.pinned (OpenSpec.ofChange vatTruthsWrong)

/-- 'spilelaw06.VatAdds': WHATEVER THE INPUT: true; the input reads as it did. -/
def vatAddsSpec : ChangeSpec := { name := "vatAdds", fn := fun _ => fun
  | [d1, d2, d3] => { results := [.lit (.bool true)], args := [d1, d2, d3] }
  | _ => none }
def vatAddsRow : OpenClaim := { program := "ytbmjkmepjggkfaa", sum := "5914bf0559a7c3d6deabe7a7064ef53bfba0fef11e5ed142a1f38552ca3c72bd", func := "spile/spilelaw06.VatAdds", spec := "vatAdds", inPlace := ["slices.overlaps[spile/vat.lot]"], unfollowed := true, recurses := true, named := ["math/bits.divideError", "math/bits.overflowError"], apart := false }
def VatAddsSaid : Prop := vatAddsRow.holds Try.pinned (OpenSpec.ofChange vatAddsSpec)

/-- ITS FALSE NEIGHBOUR: 'it returns false'. Refute it at one input. -/
def vatAddsWrong : ChangeSpec := { name := "vatAdds", fn := fun _ => fun
  | [d1, d2, d3] => { results := [.lit (.bool false)], args := [d1, d2, d3] }
  | _ => none }
def VatAddsWrongFalsely : Prop := vatAddsRow.holds Try.pinned (OpenSpec.ofChange vatAddsWrong)

/-- 'spiletop.TopWarmHours': WHATEVER THE INPUT: true; the input reads as it did. -/
def topWarmHoursSpec : ChangeSpec := { name := "topWarmHours", fn := fun _ => fun
  | [d1, d2] => { results := [.lit (.bool true)], args := [d1, d2] }
  | _ => none }
def topWarmHoursRow : OpenClaim := { program := "ytbmjkmepjggkfaa", sum := "5914bf0559a7c3d6deabe7a7064ef53bfba0fef11e5ed142a1f38552ca3c72bd", func := "spile/spiletop.TopWarmHours", spec := "topWarmHours", inPlace := ["slices.overlaps[spile/vat.lot]"], unfollowed := true, recurses := true, named := ["math/bits.divideError", "math/bits.overflowError"], apart := false }
def TopWarmHoursSaid : Prop := topWarmHoursRow.holds Try.pinned (OpenSpec.ofChange topWarmHoursSpec)

/-- ITS FALSE NEIGHBOUR: 'it returns false'. Refute it at one input. -/
def topWarmHoursWrong : ChangeSpec := { name := "topWarmHours", fn := fun _ => fun
  | [d1, d2] => { results := [.lit (.bool false)], args := [d1, d2] }
  | _ => none }
def TopWarmHoursWrongFalsely : Prop := topWarmHoursRow.holds Try.pinned (OpenSpec.ofChange topWarmHoursWrong)

/-- 'spiletop.TopConcentrated': WHATEVER THE INPUT: true; the input reads as it did. -/
def topConcentratedSpec : ChangeSpec := { name := "topConcentrated", fn := fun _ => fun
  | [d1, d2] => { results := [.lit (.bool true)], args := [d1, d2] }
  | _ => none }
def topConcentratedRow : OpenClaim := { program := "ytbmjkmepjggkfaa", sum := "5914bf0559a7c3d6deabe7a7064ef53bfba0fef11e5ed142a1f38552ca3c72bd", func := "spile/spiletop.TopConcentrated", spec := "topConcentrated", unfollowed := true, recurses := true, named := ["math/bits.divideError", "math/bits.overflowError"], apart := false }
def TopConcentratedSaid : Prop := topConcentratedRow.holds Try.pinned (OpenSpec.ofChange topConcentratedSpec)

/-- ITS FALSE NEIGHBOUR: 'it returns false'. Refute it at one input. -/
def topConcentratedWrong : ChangeSpec := { name := "topConcentrated", fn := fun _ => fun
  | [d1, d2] => { results := [.lit (.bool false)], args := [d1, d2] }
  | _ => none }
def TopConcentratedWrongFalsely : Prop := topConcentratedRow.holds Try.pinned (OpenSpec.ofChange topConcentratedWrong)

/- THE SECOND FORM. 'bulk': how many values and letters a reading holds, each counted each time it is reached (what is shared counts as often as it is met; a slice's spare places count too). A statement '..UptoSaid' is the law's where the arguments, and the package variables that the reading takes, are together of bulk at most 1048576: NARROWER than '..Said'. Prove '..Said' where nothing that the law and all that it calls make is longer than what came in: it says more and counts as full. Else prove '..UptoSaid'. A law counts once. -/
mutual
def uptoBulk {H : Type} : DataW H → Nat
  | .lit (.string bytes) => bytes.length + 1
  | .lit _ => 1
  | .nil => 1
  | .ptr d => uptoBulk d + 1
  | .slice elems spare => uptoBulkAll elems + uptoBulkAll spare + 1
  | .agg parts => uptoBulkAll parts + 1
  | .iface _ d => uptoBulk d + 1
  | .map entries => uptoBulkEntries entries + 1
  | .held _ => 1
def uptoBulkAll {H : Type} : List (DataW H) → Nat
  | [] => 0
  | d :: r => uptoBulk d + uptoBulkAll r
def uptoBulkEntries {H : Type} : List (Lit × DataW H) → Nat
  | [] => 0
  | x :: r => uptoBulkEntry x + uptoBulkEntries r
def uptoBulkEntry {H : Type} : Lit × DataW H → Nat
  | (.string bytes, d) => bytes.length + uptoBulk d + 1
  | (_, d) => uptoBulk d + 1
 end
def uptoSmall : (H : Type) → List (DataW H) → Bool := fun _ ds => decide (uptoBulkAll ds ≤ 1048576)
def OpenSpec.upto (s : _root_.Go.ChangeSpec) : _root_.Go.OpenSpec := { _root_.Go.OpenSpec.ofChange s with cond := some uptoSmall }

/-- 'spilelaw06.VatKeeps', WHERE WHAT IT READS IS OF BULK AT MOST 1048576: true; the input reads as it did. -/
def vatKeepsUptoRow : OpenClaim := { program := "ytbmjkmepjggkfaa", sum := "5914bf0559a7c3d6deabe7a7064ef53bfba0fef11e5ed142a1f38552ca3c72bd", func := "spile/spilelaw06.VatKeeps", spec := "vatKeeps", inPlace := ["slices.overlaps[spile/vat.lot]"], unfollowed := true, recurses := true, named := ["math/bits.divideError", "math/bits.overflowError"], apart := false, narrowed := true }
def VatKeepsUptoSaid : Prop := vatKeepsUptoRow.holds Try.pinned (OpenSpec.upto vatKeepsSpec)

/-- 'spilelaw06.VatRounds', WHERE WHAT IT READS IS OF BULK AT MOST 1048576: true; the input reads as it did. -/
def vatRoundsUptoRow : OpenClaim := { program := "ytbmjkmepjggkfaa", sum := "5914bf0559a7c3d6deabe7a7064ef53bfba0fef11e5ed142a1f38552ca3c72bd", func := "spile/spilelaw06.VatRounds", spec := "vatRounds", inPlace := ["slices.overlaps[spile/vat.lot]"], unfollowed := true, recurses := true, named := ["math/bits.divideError", "math/bits.overflowError"], apart := false, narrowed := true }
def VatRoundsUptoSaid : Prop := vatRoundsUptoRow.holds Try.pinned (OpenSpec.upto vatRoundsSpec)

/-- 'spilelaw06.VatReaches', WHERE WHAT IT READS IS OF BULK AT MOST 1048576: true; the input reads as it did. -/
def vatReachesUptoRow : OpenClaim := { program := "ytbmjkmepjggkfaa", sum := "5914bf0559a7c3d6deabe7a7064ef53bfba0fef11e5ed142a1f38552ca3c72bd", func := "spile/spilelaw06.VatReaches", spec := "vatReaches", inPlace := ["slices.overlaps[spile/vat.lot]"], unfollowed := true, recurses := true, named := ["math/bits.divideError", "math/bits.overflowError"], apart := false, narrowed := true }
def VatReachesUptoSaid : Prop := vatReachesUptoRow.holds Try.pinned (OpenSpec.upto vatReachesSpec)

/-- 'spilelaw06.VatGrams', WHERE WHAT IT READS IS OF BULK AT MOST 1048576: true; the input reads as it did. -/
def vatGramsUptoRow : OpenClaim := { program := "ytbmjkmepjggkfaa", sum := "5914bf0559a7c3d6deabe7a7064ef53bfba0fef11e5ed142a1f38552ca3c72bd", func := "spile/spilelaw06.VatGrams", spec := "vatGrams", inPlace := ["slices.overlaps[spile/vat.lot]"], unfollowed := true, recurses := true, named := ["math/bits.divideError", "math/bits.overflowError"], apart := false, narrowed := true }
def VatGramsUptoSaid : Prop := vatGramsUptoRow.holds Try.pinned (OpenSpec.upto vatGramsSpec)

/-- 'spilelaw06.VatOldest', WHERE WHAT IT READS IS OF BULK AT MOST 1048576: true; the input reads as it did. -/
def vatOldestUptoRow : OpenClaim := { program := "ytbmjkmepjggkfaa", sum := "5914bf0559a7c3d6deabe7a7064ef53bfba0fef11e5ed142a1f38552ca3c72bd", func := "spile/spilelaw06.VatOldest", spec := "vatOldest", inPlace := ["slices.overlaps[spile/vat.lot]"], unfollowed := true, recurses := true, named := ["math/bits.divideError", "math/bits.overflowError"], apart := false, narrowed := true }
def VatOldestUptoSaid : Prop := vatOldestUptoRow.holds Try.pinned (OpenSpec.upto vatOldestSpec)

/-- 'spilelaw06.VatTruths', WHERE WHAT IT READS IS OF BULK AT MOST 1048576: true; the input reads as it did. -/
def vatTruthsUptoRow : OpenClaim := { program := "ytbmjkmepjggkfaa", sum := "5914bf0559a7c3d6deabe7a7064ef53bfba0fef11e5ed142a1f38552ca3c72bd", func := "spile/spilelaw06.VatTruths", spec := "vatTruths", inPlace := ["slices.overlaps[spile/vat.lot]"], unfollowed := true, recurses := true, named := ["math/bits.divideError", "math/bits.overflowError"], apart := false, narrowed := true }
def VatTruthsUptoSaid : Prop := vatTruthsUptoRow.holds Try.pinned (OpenSpec.upto vatTruthsSpec)

/-- 'spilelaw06.VatAdds', WHERE WHAT IT READS IS OF BULK AT MOST 1048576: true; the input reads as it did. -/
def vatAddsUptoRow : OpenClaim := { program := "ytbmjkmepjggkfaa", sum := "5914bf0559a7c3d6deabe7a7064ef53bfba0fef11e5ed142a1f38552ca3c72bd", func := "spile/spilelaw06.VatAdds", spec := "vatAdds", inPlace := ["slices.overlaps[spile/vat.lot]"], unfollowed := true, recurses := true, named := ["math/bits.divideError", "math/bits.overflowError"], apart := false, narrowed := true }
def VatAddsUptoSaid : Prop := vatAddsUptoRow.holds Try.pinned (OpenSpec.upto vatAddsSpec)

/-- 'spiletop.TopWarmHours', WHERE WHAT IT READS IS OF BULK AT MOST 1048576: true; the input reads as it did. -/
def topWarmHoursUptoRow : OpenClaim := { program := "ytbmjkmepjggkfaa", sum := "5914bf0559a7c3d6deabe7a7064ef53bfba0fef11e5ed142a1f38552ca3c72bd", func := "spile/spiletop.TopWarmHours", spec := "topWarmHours", inPlace := ["slices.overlaps[spile/vat.lot]"], unfollowed := true, recurses := true, named := ["math/bits.divideError", "math/bits.overflowError"], apart := false, narrowed := true }
def TopWarmHoursUptoSaid : Prop := topWarmHoursUptoRow.holds Try.pinned (OpenSpec.upto topWarmHoursSpec)

/-- 'spiletop.TopConcentrated', WHERE WHAT IT READS IS OF BULK AT MOST 1048576: true; the input reads as it did. -/
def topConcentratedUptoRow : OpenClaim := { program := "ytbmjkmepjggkfaa", sum := "5914bf0559a7c3d6deabe7a7064ef53bfba0fef11e5ed142a1f38552ca3c72bd", func := "spile/spiletop.TopConcentrated", spec := "topConcentrated", unfollowed := true, recurses := true, named := ["math/bits.divideError", "math/bits.overflowError"], apart := false, narrowed := true }
def TopConcentratedUptoSaid : Prop := topConcentratedUptoRow.holds Try.pinned (OpenSpec.upto topConcentratedSpec)

end Rows
end Go.Proofs.Ytbmjkmepjggkfaa
