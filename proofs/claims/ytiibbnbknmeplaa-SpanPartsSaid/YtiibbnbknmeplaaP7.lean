/- Plain arithmetic: fractions in lowest terms, their sums, and a part of a number rounded down and up. -/
import Derived.Test.YtiibbnbknmeplaaC8
namespace Go.Proofs.Ytiibbnbknmeplaa
set_option linter.unusedVariables false
set_option linter.unusedSimpArgs false

theorem low_spec (n d : Int) (hd : d ≠ 0) : lowN n d * d = lowQ n d * n ∧ 1 ≤ lowQ n d ∧ Int.gcd (lowN n d) (lowQ n d) = 1 ∧ (lowN n d).natAbs ≤ n.natAbs ∧ (lowQ n d).natAbs ≤ d.natAbs := by
  have hg : 0 < Int.gcd n d := Int.gcd_pos_of_ne_zero_right n hd
  have h1 := Int.gcd_ediv_gcd_ediv_gcd hg
  obtain ⟨a, ha⟩ := Int.gcd_dvd_left (a := n) (b := d)
  obtain ⟨b, hb⟩ := Int.gcd_dvd_right (a := n) (b := d)
  have n1 : (lowN n d).natAbs ≤ n.natAbs := by unfold lowN; rw [Int.natAbs_tdiv]; exact Nat.div_le_self _ _
  have n2 : (lowQ n d).natAbs ≤ d.natAbs := by unfold lowQ; rw [Int.natAbs_tdiv]; exact Nat.div_le_self _ _
  refine ⟨?_, ?_, ?_, n1, n2⟩ <;> clear n1 n2
  all_goals
    simp only [lowN, lowQ, lowD]
    generalize Int.gcd n d = g at *
    have g0 : (g : Int) ≠ 0 := by omega
    rw [ha, Int.mul_ediv_cancel_left _ g0] at h1
    rw [hb, Int.mul_ediv_cancel_left _ g0] at h1
    by_cases h : d < 0
  · rw [if_pos h, Int.tdiv_neg, Int.tdiv_neg, ha, hb, Int.mul_tdiv_cancel_left _ g0, Int.mul_tdiv_cancel_left _ g0]
    rw [Int.neg_mul, Int.neg_mul]
    congr 1
    simp only [Int.mul_left_comm, Int.mul_comm]
  · rw [if_neg h, ha, hb, Int.mul_tdiv_cancel_left _ g0, Int.mul_tdiv_cancel_left _ g0]
    simp only [Int.mul_left_comm, Int.mul_comm]
  · rw [if_pos h, Int.tdiv_neg, hb, Int.mul_tdiv_cancel_left _ g0]
    have : b < 0 := by
      refine Int.not_le.1 fun hb0 => ?_
      have := Int.mul_nonneg (show 0 ≤ (g : Int) by omega) hb0
      omega
    omega
  · rw [if_neg h, hb, Int.mul_tdiv_cancel_left _ g0]
    have : 0 < b := by
      refine Int.not_le.1 fun hb0 => ?_
      have := Int.mul_nonneg (show 0 ≤ (g : Int) by omega) (show 0 ≤ -b by omega)
      rw [Int.mul_neg] at this
      omega
    omega
  · rw [if_pos h, Int.tdiv_neg, Int.tdiv_neg, ha, hb, Int.mul_tdiv_cancel_left _ g0, Int.mul_tdiv_cancel_left _ g0]
    rw [Int.neg_gcd, Int.gcd_neg]
    exact h1
  · rw [if_neg h, ha, hb, Int.mul_tdiv_cancel_left _ g0, Int.mul_tdiv_cancel_left _ g0]
    exact h1

theorem dvd_of_prod {a b c d : Int} (h : a * d = c * b) (g : Int.gcd a b = 1) : b ∣ d := by
  have h2 : b.natAbs ∣ d.natAbs := by
    refine Nat.Coprime.dvd_of_dvd_mul_left (m := a.natAbs) ?_ ?_
    · rw [Nat.Coprime, Nat.gcd_comm]; exact g
    · rw [← Int.natAbs_mul, h, Int.natAbs_mul]
      exact Nat.dvd_mul_left _ _
  exact Int.natAbs_dvd_natAbs.1 h2

theorem low_unique {p q x y : Int} (hq : 1 ≤ q) (hy : 1 ≤ y) (h : p * y = x * q) (g1 : Int.gcd p q = 1) (g2 : Int.gcd x y = 1) : p = x ∧ q = y := by
  have d1 : q ∣ y := dvd_of_prod h g1
  have d2 : y ∣ q := dvd_of_prod h.symm g2
  have e : q = y := Int.le_antisymm (Int.le_of_dvd (by omega) d1) (Int.le_of_dvd (by omega) d2)
  subst e
  exact ⟨Int.eq_of_mul_eq_mul_right (by omega) h, rfl⟩

theorem low_is {n d x y : Int} (hd : d ≠ 0) (hy : 1 ≤ y) (h : n * y = x * d) (g : Int.gcd x y = 1) : lowN n d = x ∧ lowQ n d = y := by
  obtain ⟨e, q1, g1, _, _⟩ := low_spec n d hd
  generalize lowN n d = p at *
  generalize lowQ n d = q at *
  refine low_unique q1 hy ?_ g1 g
  have : (p * y) * d = (x * q) * d := by
    rw [Int.mul_right_comm, e, Int.mul_assoc, h]
    simp only [Int.mul_left_comm, Int.mul_comm]
  exact Int.eq_of_mul_eq_mul_right hd this
/-- a part is valid -/
def vpB (p q : Int) : Bool := fitsB p q && decide (Int.gcd p q = 1)
theorem vpB_of {p q : Int} (h : vpB p q = true) : -1000000000 ≤ p ∧ p ≤ 1000000000 ∧ 1 ≤ q ∧ q ≤ 1000000000 ∧ Int.gcd p q = 1 := by
  simp [vpB, fitsB] at h; omega
theorem vpB_mk {p q : Int} (h1 : -1000000000 ≤ p) (h2 : p ≤ 1000000000) (h3 : 1 ≤ q) (h4 : q ≤ 1000000000) (h5 : Int.gcd p q = 1) : vpB p q = true := by
  simp [vpB, fitsB]; omega
/-- what is put in lowest terms is valid or too great -/
theorem low_cases (n d : Int) (hd : d ≠ 0) : (lowRE n d = 10 ∧ lowRN n d = 0 ∧ lowRQ n d = 0) ∨ (lowRE n d = 0 ∧ lowRN n d = lowN n d ∧ lowRQ n d = lowQ n d ∧ vpB (lowRN n d) (lowRQ n d) = true) := by
  obtain ⟨e, q1, g1, _, _⟩ := low_spec n d hd
  unfold lowRE lowRN lowRQ vpB
  cases h : fitsB (lowN n d) (lowQ n d)
  · left; simp
  · right; simp [h, g1]
theorem low_small (n d : Int) (hd : d ≠ 0) (h1 : n.natAbs ≤ 1000000000) (h2 : d.natAbs ≤ 1000000000) : lowRE n d = 0 ∧ lowRN n d = lowN n d ∧ lowRQ n d = lowQ n d ∧ vpB (lowRN n d) (lowRQ n d) = true := by
  obtain ⟨e, q1, g1, n1, n2⟩ := low_spec n d hd
  rcases low_cases n d hd with h | h
  · exfalso
    have := h.1
    unfold lowRE fitsB at this
    rw [if_pos (by simp; omega)] at this
    omega
  · exact h
theorem low_val {n d x y : Int} (hd : d ≠ 0) (hy : 1 ≤ y) (h : n * y = x * d) (g : vpB x y = true) : lowRE n d = 0 ∧ lowRN n d = x ∧ lowRQ n d = y := by
  obtain ⟨a1, a2, a3, a4, a5⟩ := vpB_of g
  obtain ⟨e1, e2⟩ := low_is hd hy h a5
  have hf : fitsB x y = true := by simp [fitsB]; omega
  unfold lowRE lowRN lowRQ
  rw [e1, e2, hf]
  exact ⟨rfl, rfl, rfl⟩
/-- what is added is taken away again -/
theorem add_back {x y p q s t : Int} (hx : vpB x y = true) (hy : vpB p q = true) (hs : s * (y * q) = t * (x * q + p * y)) (ht : 1 ≤ t) (gs : Int.gcd s t = 1) :
    lowRE (s * q + -p * t) (t * q) = 0 ∧ lowRN (s * q + -p * t) (t * q) = x ∧ lowRQ (s * q + -p * t) (t * q) = y := by
  obtain ⟨a1, a2, a3, a4, a5⟩ := vpB_of hx
  obtain ⟨b1, b2, b3, b4, b5⟩ := vpB_of hy
  have hq : (0 : Int) < q := by omega
  have h0 : 0 < t * q := Int.mul_pos (by omega) hq
  refine low_val (by omega) a3 ?_ hx
  have e : (s * q + -p * t) * y = s * (y * q) - p * y * t := by
    rw [Int.add_mul, Int.neg_mul, Int.neg_mul, ← Int.sub_eq_add_neg]
    congr 1
    · simp only [Int.mul_left_comm, Int.mul_comm]
    · rw [Int.mul_right_comm]
  rw [e, hs, Int.mul_add, Int.mul_comm (p * y) t, Int.add_sub_cancel]
  simp only [Int.mul_left_comm, Int.mul_comm]
theorem of_facts (m c : Int) (hc : 0 < c) (B : Int) (h1 : -B ≤ m) (h2 : m ≤ B) :
    m / c * c ≤ m ∧ m ≤ -(-m / c) * c ∧ -(-m / c) - m / c ≤ 1 ∧ m / c ≤ -(-m / c) ∧ (decide (-(-m / c) = m / c) = decide (m.tmod c = 0)) ∧ -B ≤ m / c ∧ -(-m / c) ≤ B ∧ -B - c ≤ m / c * c ∧ -(-m / c) * c ≤ B + c ∧ m - c < m / c * c := by
  have e1 := Int.mul_ediv_add_emod m c
  have r1 := Int.emod_nonneg m (show c ≠ 0 by omega)
  have r2 := Int.emod_lt_of_pos m hc
  have e2 := Int.mul_ediv_add_emod (-m) c
  have r3 := Int.emod_nonneg (-m) (show c ≠ 0 by omega)
  have r4 := Int.emod_lt_of_pos (-m) hc
  have hB : 0 ≤ B := by omega
  have g1 : -B ≤ m / c := by
    refine (Int.le_ediv_iff_mul_le hc).2 ?_
    have : B * 1 ≤ B * c := Int.mul_le_mul_of_nonneg_left (by omega) hB
    rw [Int.neg_mul]; omega
  have g2 : -B ≤ -m / c := by
    refine (Int.le_ediv_iff_mul_le hc).2 ?_
    have : B * 1 ≤ B * c := Int.mul_le_mul_of_nonneg_left (by omega) hB
    rw [Int.neg_mul]; omega
  have hd : m.tmod c = 0 ↔ m % c = 0 := by
    rw [← Int.dvd_iff_tmod_eq_zero, ← Int.dvd_iff_emod_eq_zero]
  have hz : m / c = - (-m / c) ↔ m % c = 0 := by
    constructor
    · intro h
      generalize -m / c = u at *
      subst_vars
      rw [h, Int.mul_neg] at e1
      omega
    · intro h
      have : m / c * c = m := by rw [Int.mul_comm]; omega
      have h3 : -m / c = -(m / c) := by rw [Int.neg_ediv_of_dvd (Int.dvd_of_emod_eq_zero h)]
      omega
  have hle : m / c ≤ -(-m / c) := by
    refine Int.not_lt.1 fun hlt => ?_
    have h3 : c * (m / c + -m / c) = c * (m / c) + c * (-m / c) := Int.mul_add _ _ _
    have h4 : c * 1 ≤ c * (m / c + -m / c) := Int.mul_le_mul_of_nonneg_left (by omega) (by omega)
    omega
  have hge : -(-m / c) - m / c ≤ 1 := by
    refine Int.not_lt.1 fun hlt => ?_
    have h3 : c * (m / c + -m / c) = c * (m / c) + c * (-m / c) := Int.mul_add _ _ _
    have h4 : c * (m / c + -m / c) ≤ c * (-2) := Int.mul_le_mul_of_nonneg_left (by omega) (by omega)
    omega
  refine ⟨?_, ?_, hge, hle, ?_, g1, by omega, ?_, ?_, ?_⟩
  · rw [Int.mul_comm]; omega
  · rw [Int.neg_mul, Int.mul_comm]; omega
  · rw [Bool.eq_iff_iff]; simp only [decide_eq_true_eq]; rw [hd, ← hz]; exact eq_comm
  · rw [Int.mul_comm]; omega
  · rw [Int.neg_mul, Int.mul_comm]; omega
  · rw [Int.mul_comm]; omega
end Go.Proofs.Ytiibbnbknmeplaa
