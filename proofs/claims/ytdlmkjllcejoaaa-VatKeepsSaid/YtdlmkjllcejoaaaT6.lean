/- Contracts: whether a set is valid. -/
import Derived.Test.YtdlmkjllcejoaaaT1
namespace Go.Proofs.Ytdlmkjllcejoaaa
open Go.RowKit Go.Lib Go.Shelf
set_option linter.unusedVariables false
set_option linter.unusedSimpArgs false
attribute [local go_sem ↓] Go.wp_at_zero Go.wp_at_succ

theorem vrB_of {lo hi : Int} (h : vrB lo hi = true) : -1000000000000000 ≤ lo ∧ lo ≤ hi ∧ hi ≤ 1000000000000000 := by simp [vrB] at h; omega
/-- whether range k of a set is as it must be -/
def rngOk (xs : List (Int × Int)) (k : Nat) : Bool :=
  match xs[k]? with
  | none => true
  | some p => vrB p.1 p.2 && (match k with | 0 => true | j + 1 => match xs[j]? with | none => true | some q => decide (q.2 + 1 < p.1))
def rngsOk (xs : List (Int × Int)) (n : Nat) : Bool := (List.range n).all (rngOk xs)
def setE (xs : List (Int × Int)) : Int := if 200 < xs.length then 5 else if rngsOk xs xs.length then 0 else 2
theorem rngOk_of {xs : List (Int × Int)} {k : Nat} {p : Int × Int} (h : xs[k]? = some p) : rngOk xs k = (vrB p.1 p.2 && (match k with | 0 => true | j + 1 => match xs[j]? with | none => true | some q => decide (q.2 + 1 < p.1))) := by
  cases k with
  | zero => simp [rngOk, h]
  | succ j => simp [rngOk, h]
theorem rngOk_zero {xs : List (Int × Int)} {k : Nat} {p : Int × Int} (h : xs[k]? = some p) (hk : k = 0) : rngOk xs k = vrB p.1 p.2 := by subst hk; rw [rngOk_of h]; simp
theorem rngOk_succ {xs : List (Int × Int)} {j : Nat} {p q : Int × Int} (h : xs[j + 1]? = some p) (hq : xs[j]? = some q) : rngOk xs (j + 1) = (vrB p.1 p.2 && decide (q.2 + 1 < p.1)) := by rw [rngOk_of h]; simp only [hq]
theorem rngsOk_succ (xs : List (Int × Int)) (n : Nat) : rngsOk xs (n + 1) = (rngsOk xs n && rngOk xs n) := by
  simp [rngsOk, List.range_succ, List.all_append]
theorem rngsOk_no (xs : List (Int × Int)) (n k : Nat) (hk : k < n) (h : rngOk xs k = false) : rngsOk xs n = false := by
  rw [Bool.eq_false_iff]
  intro ha
  have := List.all_eq_true.1 ha k (by simpa using hk)
  rw [h] at this
  cases this
theorem rngsOk_at {xs : List (Int × Int)} {n k : Nat} {p : Int × Int} (h : rngsOk xs n = true) (hk : k < n) (hp : xs[k]? = some p) : vrB p.1 p.2 = true := by
  have := List.all_eq_true.1 h k (by simpa using hk)
  rw [rngOk_of hp] at this
  exact (Bool.and_eq_true_iff.1 this).1
theorem setE_no {xs : List (Int × Int)} (hl : xs.length ≤ 200) (h : rngsOk xs xs.length = false) : setE xs = 2 := by
  unfold setE
  rw [if_neg (by omega), h]; rfl
theorem setE_yes {xs : List (Int × Int)} (hl : xs.length ≤ 200) (h : rngsOk xs xs.length = true) : setE xs = 0 := by
  unfold setE
  rw [if_neg (by omega), h]; rfl

end Go.Proofs.Ytdlmkjllcejoaaa

