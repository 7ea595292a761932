/- Contracts: the reference's functions on sap. -/
import Derived.Test.YtkhongbemoahpaaC13
import Derived.Test.YtkhongbemoahpaaRI
namespace Go.Proofs.Ytkhongbemoahpaa
open Go.RowKit Go.Lib Go.Shelf
set_option linter.unusedVariables false
set_option linter.unusedSimpArgs false
attribute [local go_sem ↓] Go.wp_at_zero Go.wp_at_succ

theorem floor_pos (a b : Int) (ha : 0 ≤ a) : a.tdiv b = a / b ∧ a.tmod b = a % b := ⟨Int.tdiv_eq_ediv_of_nonneg ha, Int.tmod_eq_emod_of_nonneg ha⟩
theorem floor_neg (a b : Int) (ha : a < 0) (hb : 0 < b) : (a.tmod b < 0 → a / b = a.tdiv b - 1) ∧ (¬ a.tmod b < 0 → a / b = a.tdiv b) := by
  have h := Int.mul_tdiv_add_tmod a b
  have h1 : a.tmod b ≤ 0 := by
    have := Int.tmod_nonneg b (show 0 ≤ -a by omega)
    rw [Int.neg_tmod] at this
    omega
  have h2 : -b < a.tmod b := by
    have := Int.tmod_lt_of_pos (-a) hb
    rw [Int.neg_tmod] at this
    omega
  generalize a.tdiv b = q at *
  generalize a.tmod b = r at *
  constructor
  · intro hr
    exact ((Int.ediv_emod_unique (a := a) (b := b) (r := b + r) (q := q - 1) hb).2 ⟨by rw [Int.mul_sub, Int.mul_one]; omega, by omega, by omega⟩).1
  · intro hr
    exact ((Int.ediv_emod_unique (a := a) (b := b) (r := r) (q := q) hb).2 ⟨by omega, by omega, by omega⟩).1
theorem tdiv_abs (a b : Int) (hb : 0 < b) (B : Int) (h1 : -B ≤ a) (h2 : a ≤ B) : -B ≤ a.tdiv b ∧ a.tdiv b ≤ B := by
  have h : (a.tdiv b).natAbs ≤ a.natAbs := by rw [Int.natAbs_tdiv]; exact Nat.div_le_self _ _
  omega
theorem tmod_abs (a b : Int) (hb : 0 < b) : -b < a.tmod b ∧ a.tmod b < b := by
  have h1 := Int.tmod_lt_of_pos a hb
  have h2 : -b < a.tmod b := by
    have := Int.tmod_lt_of_pos (-a) hb
    rw [Int.neg_tmod] at this
    omega
  exact ⟨h2, h1⟩

theorem q_of (a s : Int) (hv : spB a s = true) (h0 : a + s ≠ 0) : qLo s 10000 (a + s) = s * 10000 / (a + s) ∧ qHi s 10000 (a + s) = -(-(s * 10000) / (a + s)) := by
  obtain ⟨h1, h2, h3, h4⟩ := spB_of hv
  exact q_pos (a := s) (b := 10000) (c := a + s) (by omega) (by
    rw [show Int.natAbs 10000 = 10000 from rfl]
    refine Nat.le_trans (Nat.div_le_self _ _) ?_
    omega)

end Go.Proofs.Ytkhongbemoahpaa

