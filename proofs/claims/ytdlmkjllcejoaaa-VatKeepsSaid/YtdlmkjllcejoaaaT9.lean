/- Contracts: where the ranges of two sets begin, and where they have ended: the collecting loops. -/
import Derived.Test.YtdlmkjllcejoaaaT8
import Derived.Test.YtdlmkjllcejoaaaT5
import Derived.Test.YtdlmkjllcejoaaaSh
import Derived.Lib.OwnBridge
import Derived.Sort.OwnSortedInts
namespace Go.Proofs.Ytdlmkjllcejoaaa
open Go.RowKit Go.Lib Go.Shelf Go.Sort
set_option linter.unusedVariables false
set_option linter.unusedSimpArgs false
attribute [local go_sem ↓] Go.wp_at_zero Go.wp_at_succ

/-- where some ranges begin, and have ended -/
def stepsOf (xs : List (Int × Int)) : List Int := xs.flatMap fun p => [p.1, p.2 + 1]
theorem stepsOf_snoc (xs : List (Int × Int)) (p : Int × Int) : stepsOf (xs ++ [p]) = stepsOf xs ++ [p.1, p.2 + 1] := by simp [stepsOf]
theorem stepsOf_length (xs : List (Int × Int)) : (stepsOf xs).length = xs.length * 2 := by
  induction xs with
  | nil => rfl
  | cons p xs ih => rw [← List.singleton_append, stepsOf, List.flatMap_append, List.length_append]; unfold stepsOf at ih; rw [ih]; simp; omega
def ints (zs : List Int) : List Value := zs.map fun z => .int .i64 z
theorem ints_append (xs ys : List Int) : ints (xs ++ ys) = ints xs ++ ints ys := by simp [ints]
theorem infoInt : (Try.prog.info? 3).map (fun i => (i.zero, i.size, i.bytes)) = some (some (.int .i64 0), 1, 8) := by kernel_rfl

/-- where some sets begin and have ended, in order, each once -/
def stepsUp (zs : List Int) : List Int := Lib.compact (zs.mergeSort fun x y => decide (x ≤ y))
theorem stepsUp_nil : stepsUp [] = [] := by
  have h := compact_length_le (([] : List Int).mergeSort fun x y => decide (x ≤ y))
  rw [List.length_mergeSort] at h
  exact List.eq_nil_of_length_eq_zero (Nat.le_zero.1 h)
def ChgPost (w : World) (zs : List Int) (e : Ending) (w' : World) : Prop :=
  ∃ v, e = .returned v ∧ w'.ownsRow w.heap.size 3 1 v (stepsUp zs).length (ints (stepsUp zs)) ∧ Below w.heap.size w w'

end Go.Proofs.Ytdlmkjllcejoaaa

