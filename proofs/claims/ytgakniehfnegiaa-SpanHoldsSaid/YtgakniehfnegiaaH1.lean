/- Contracts: the statement's own small functions on ranges. -/
import Derived.Test.YtgakniehfnegiaaP5
import Derived.Test.YtgakniehfnegiaaK2
namespace Go.Proofs.Ytgakniehfnegiaa
open Go.RowKit Go.Lib Go.Shelf
set_option linter.unusedVariables false
set_option linter.unusedSimpArgs false
attribute [local go_sem ↓] Go.wp_at_zero Go.wp_at_succ

set_option maxHeartbeats 1000000 in
theorem wIn_any (lo hi p : Int) (x : Sm lo hi) (p0 : 0 ≤ p) (p1 : p ≤ 4294967295) (w : World) :
    Calls Try.prog 84 #[.agg #[.int .i64 lo, .int .i64 hi], .int .u32 p] w fun e w' => e = .returned (.tuple #[.int .i64 (lo + p % (hi - lo + 1)), .bool true]) ∧ Below w.heap.size w w' := by
  obtain ⟨x1, x2, x3⟩ := x
  have d1 : decide (lo < -1000000000000000) = false := by simp; omega
  have d2 : decide (1000000000000000 < hi) = false := by simp; omega
  have d3 : decide (hi < lo) = false := by simp; omega
  have hd : (hi - lo + 1 == 0) = false := by simp; omega
  have hr0 : 0 ≤ p % (hi - lo + 1) := Int.emod_nonneg _ (by omega)
  have hr1 : p % (hi - lo + 1) < hi - lo + 1 := Int.emod_lt_of_pos _ (by omega)
  have w1 : IntKind.i64.wrap (hi - lo) = hi - lo := IntWalk.i64_in _ (by omega)
  have w2 : IntKind.i64.wrap (hi - lo + 1) = hi - lo + 1 := IntWalk.i64_in _ (by omega)
  have w3 : IntKind.i64.wrap p = p := IntWalk.i64_in _ (by omega)
  have w4 : p.tmod (hi - lo + 1) = p % (hi - lo + 1) := Int.tmod_eq_emod_of_nonneg p0
  have w5 : IntKind.i64.wrap (p % (hi - lo + 1)) = p % (hi - lo + 1) := IntWalk.i64_in _ (by omega)
  have w6 : IntKind.i64.wrap (lo + p % (hi - lo + 1)) = lo + p % (hi - lo + 1) := IntWalk.i64_in _ (by omega)
  go_enter Try.func84, Try.ntmps84
  go_wp2_with fail
  go_quiet (fail)
  go_wp2_with fail
  go_ret2
  exact ⟨rfl, below_drewN ((Below.refl _ _).alloc (Nat.le_refl _) _) _⟩

set_option maxHeartbeats 400000 in
theorem lHas_any (lo hi n : Int) (w : World) :
    Calls Try.prog 85 #[.agg #[.int .i64 lo, .int .i64 hi], .int .i64 n] w fun e w' => e = .returned (.bool (decide (lo ≤ n) && decide (n ≤ hi))) ∧ Below w.heap.size w w' := by
  by_cases h1 : lo ≤ n <;> by_cases h2 : n ≤ hi
  all_goals
    go_enter Try.func85, Try.ntmps85
    go_wp2
    go_ret
    exact ⟨by simp [*], (Below.refl _ _).alloc (Nat.le_refl _) _⟩
set_option maxHeartbeats 400000 in
theorem lInside_any (a1 a2 b1 b2 : Int) (w : World) :
    Calls Try.prog 86 #[.agg #[.int .i64 a1, .int .i64 a2], .agg #[.int .i64 b1, .int .i64 b2]] w fun e w' => e = .returned (.bool (decide (b1 ≤ a1) && decide (a2 ≤ b2))) ∧ Below w.heap.size w w' := by
  by_cases h1 : b1 ≤ a1 <;> by_cases h2 : a2 ≤ b2
  all_goals
    go_enter Try.func86, Try.ntmps86
    go_wp2
    go_ret
    exact ⟨by simp [*], ((Below.refl _ _).alloc (Nat.le_refl _) _).alloc (by simp) _⟩
theorem lHas_yes {lo hi n : Int} (h1 : lo ≤ n) (h2 : n ≤ hi) (w : World) :
    Calls Try.prog 85 #[.agg #[.int .i64 lo, .int .i64 hi], .int .i64 n] w fun e w' => e = .returned (.bool true) ∧ Below w.heap.size w w' := by
  have h := lHas_any lo hi n w
  rw [show (decide (lo ≤ n) && decide (n ≤ hi)) = true from by simp [h1, h2]] at h
  exact h
theorem lHas_no {lo hi n : Int} (h : ¬ (lo ≤ n ∧ n ≤ hi)) (w : World) :
    Calls Try.prog 85 #[.agg #[.int .i64 lo, .int .i64 hi], .int .i64 n] w fun e w' => e = .returned (.bool false) ∧ Below w.heap.size w w' := by
  have h' := lHas_any lo hi n w
  rw [show (decide (lo ≤ n) && decide (n ≤ hi)) = false from by simp; omega] at h'
  exact h'
theorem lInside_yes {a1 a2 b1 b2 : Int} (h1 : b1 ≤ a1) (h2 : a2 ≤ b2) (w : World) :
    Calls Try.prog 86 #[.agg #[.int .i64 a1, .int .i64 a2], .agg #[.int .i64 b1, .int .i64 b2]] w fun e w' => e = .returned (.bool true) ∧ Below w.heap.size w w' := by
  have h := lInside_any a1 a2 b1 b2 w
  rw [show (decide (b1 ≤ a1) && decide (a2 ≤ b2)) = true from by simp [h1, h2]] at h
  exact h
end Go.Proofs.Ytgakniehfnegiaa
