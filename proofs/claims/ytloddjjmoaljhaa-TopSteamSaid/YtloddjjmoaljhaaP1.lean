/- Plain arithmetic: quotients that are rounded down and up. -/
import Derived.Test.YtloddjjmoaljhaaC2
namespace Go.Proofs.Ytloddjjmoaljhaa
set_option linter.unusedVariables false
set_option linter.unusedSimpArgs false

theorem neg_ediv_nat (n c : Nat) (hc : 0 < c) : (-(n : Int)) / (c : Int) = -(((n / c : Nat) : Int) + if n % c = 0 then 0 else 1) := by
  have h := Nat.div_add_mod n c
  have hr := Nat.mod_lt n hc
  generalize n / c = q at *
  generalize n % c = r at *
  have hi : (c : Int) * (q : Int) + (r : Int) = (n : Int) := by exact_mod_cast h
  by_cases h0 : r = 0
  · rw [if_pos h0]
    have := (Int.ediv_emod_unique (a := -(n : Int)) (b := (c : Int)) (r := 0) (q := -((q : Int) + 0)) (by omega)).2 ⟨by rw [Int.mul_neg, Int.add_zero]; omega, by omega, by omega⟩
    exact this.1
  · rw [if_neg h0]
    have := (Int.ediv_emod_unique (a := -(n : Int)) (b := (c : Int)) (r := (c : Int) - (r : Int)) (q := -((q : Int) + 1)) (by omega)).2 ⟨by rw [Int.mul_neg, Int.mul_add, Int.mul_one]; omega, by omega, by omega⟩
    exact this.1

theorem qW_small {a b c : Int} (h : a.natAbs * b.natAbs / c.natAbs ≤ 1000000000000000000) : qW a b c = a.natAbs * b.natAbs / c.natAbs ∧ qR a b c = a.natAbs * b.natAbs % c.natAbs := by
  unfold qW qR
  rw [if_neg (by omega), if_neg (by omega)]
  exact ⟨rfl, rfl⟩

/-- the quotient by a number above 0, if it is not too great -/
theorem q_pos {a b c : Int} (hc : 0 < c) (h : a.natAbs * b.natAbs / c.natAbs ≤ 1000000000000000000) : qLo a b c = a * b / c ∧ qHi a b c = -((-(a * b)) / c) := by
  obtain ⟨hw, hr⟩ := qW_small h
  unfold qLo qHi
  rw [hw, hr]
  have hm : a.natAbs * b.natAbs = (a * b).natAbs := (Int.natAbs_mul a b).symm
  rw [hm]
  clear hw hr h hm
  obtain ⟨C, rfl⟩ := Int.eq_ofNat_of_zero_le (by omega : 0 ≤ c)
  have hC : 0 < C := by omega
  rw [Int.natAbs_natCast]
  have hneg : qNeg a b C = (decide (a < 0) != decide (b < 0)) := by
    unfold qNeg
    rw [show decide ((C : Int) < 0) = false from by simp]
    simp
  rw [hneg]
  by_cases h1 : a < 0 <;> by_cases h2 : b < 0
  · have hp : 0 ≤ a * b := Int.mul_nonneg_of_nonpos_of_nonpos (by omega) (by omega)
    obtain ⟨n, hn⟩ := Int.eq_ofNat_of_zero_le hp
    rw [hn, Int.natAbs_natCast, neg_ediv_nat n C hC]
    simp [h1, h2]
  · have hp : 0 ≤ -(a * b) := by rw [← Int.neg_mul]; exact Int.mul_nonneg (by omega) (by omega)
    obtain ⟨n, hn⟩ := Int.eq_ofNat_of_zero_le hp
    have hn' : a * b = -(n : Int) := by omega
    rw [hn', Int.natAbs_neg, Int.natAbs_natCast, neg_ediv_nat n C hC, Int.neg_neg]
    simp [h1, h2]
  · have hp : 0 ≤ -(a * b) := by rw [← Int.mul_neg]; exact Int.mul_nonneg (by omega) (by omega)
    obtain ⟨n, hn⟩ := Int.eq_ofNat_of_zero_le hp
    have hn' : a * b = -(n : Int) := by omega
    rw [hn', Int.natAbs_neg, Int.natAbs_natCast, neg_ediv_nat n C hC, Int.neg_neg]
    simp [h1, h2]
  · have hp : 0 ≤ a * b := Int.mul_nonneg (by omega) (by omega)
    obtain ⟨n, hn⟩ := Int.eq_ofNat_of_zero_le hp
    rw [hn, Int.natAbs_natCast, neg_ediv_nat n C hC]
    simp [h1, h2]
end Go.Proofs.Ytloddjjmoaljhaa

