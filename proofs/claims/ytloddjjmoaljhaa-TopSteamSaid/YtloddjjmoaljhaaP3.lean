/- Plain arithmetic: what is boiled off reaches the concentration, and no gram more may go. -/
import Derived.Test.YtloddjjmoaljhaaP1
import Derived.Test.YtloddjjmoaljhaaC13
namespace Go.Proofs.Ytloddjjmoaljhaa
set_option linter.unusedVariables false
set_option linter.unusedSimpArgs false

theorem fl_le {N m : Int} (hm : 0 < m) : m * (N / m) ≤ N := by
  have h := Int.mul_ediv_add_emod N m
  have h1 := Int.emod_nonneg N (show m ≠ 0 by omega)
  omega
theorem fl_lt {N m : Int} (hm : 0 < m) : N < m * (N / m + 1) := by
  have h := Int.mul_ediv_add_emod N m
  have h1 := Int.emod_lt_of_pos N hm
  rw [Int.mul_add, Int.mul_one]
  omega
theorem fl_ge {N m k : Int} (hm : 0 < m) (h : k * m ≤ N) : k ≤ N / m := (Int.le_ediv_iff_mul_le hm).2 h
theorem fl_mono {N m m' : Int} (hN : 0 ≤ N) (hm' : 0 < m') (h : m' ≤ m) : N / m ≤ N / m' := by
  refine fl_ge hm' ?_
  have h1 := fl_le (N := N) (m := m) (by omega)
  have h2 : 0 ≤ N / m := Int.ediv_nonneg hN (by omega)
  have h3 : N / m * m' ≤ N / m * m := Int.mul_le_mul_of_nonneg_left h h2
  rw [Int.mul_comm m] at h1
  omega
theorem ce_le {N m k : Int} (hm : 0 < m) (h : N ≤ k * m) : -(-N / m) ≤ k := by
  have : -k ≤ -N / m := fl_ge hm (by rw [Int.neg_mul]; omega)
  omega
theorem ce_ge {N m : Int} (hm : 0 < m) : N ≤ -(-N / m) * m := by
  have h := fl_le (N := -N) (m := m) hm
  rw [Int.mul_comm] at h
  rw [Int.neg_mul]
  omega
theorem ce_mono {N m m' : Int} (hN : 0 ≤ N) (hm' : 0 < m') (h : m' ≤ m) : -(-N / m) ≤ -(-N / m') := by
  refine ce_le (by omega) ?_
  have h1 := ce_ge (N := N) (m := m') hm'
  have h2 : 0 ≤ -(-N / m') := by
    have : -N / m' ≤ 0 := Int.ediv_nonpos_of_nonpos_of_neg (by omega) (by omega)
    omega
  have h3 := Int.mul_le_mul_of_nonneg_left h h2
  omega
theorem fl_ce {N m : Int} (hm : 0 < m) : -(-N / m) = N / m ∨ -(-N / m) = N / m + 1 := by
  have h1 := fl_le (N := N) (m := m) hm
  have h2 := fl_lt (N := N) (m := m) hm
  have h3 : -(-N / m) ≤ N / m + 1 := ce_le hm (by rw [Int.mul_comm]; omega)
  have h4 : N / m ≤ -(-N / m) := by
    have := ce_ge (N := N) (m := m) hm
    by_cases h : N / m ≤ -(-N / m)
    · exact h
    · exfalso
      have h5 : -(-N / m) + 1 ≤ N / m := by omega
      have h6 := Int.mul_le_mul_of_nonneg_right h5 (show 0 ≤ m by omega)
      rw [Int.add_mul, Int.one_mul] at h6
      rw [Int.mul_comm m] at h1
      omega
  omega

/-- what is known of sap (W, S), a concentration b, what goes off (w), and both concentrations -/
structure Boils (W S b w xl xh yl yh : Int) : Prop where
  w0 : 0 ≤ w
  w1 : w ≤ W
  c3 : b * (W - w + S) ≤ S * 10000
  c4 : 0 < w → S * 10000 < b * (W - w + 1 + S)
  lb : b ≤ yl
  lx : xl ≤ yl
  hx : xh ≤ yh
  xx : xh = xl ∨ xh = xl + 1
  x0 : 0 ≤ xl
  ht : yh ≤ 10000
  wx : w = 0 ↔ b ≤ xl
  p1 : 0 ≤ b * (W - w + S)
  p2 : b * (W - w + S) ≤ 1000000000000000000
  p3 : 0 ≤ b * (W - w + 1 + S)
  p4 : b * (W - w + 1 + S) ≤ 1000000000000000000
theorem prod_bd {b m : Int} (b0 : 1 ≤ b) (b1 : b ≤ 10000) (m0 : 0 ≤ m) (m1 : m ≤ 10000000000000) : 0 ≤ b * m ∧ b * m ≤ 1000000000000000000 := by
  have h1 : 0 ≤ b * m := Int.mul_nonneg (by omega) m0
  have h2 : b * m ≤ 10000 * m := Int.mul_le_mul_of_nonneg_right b1 m0
  omega
theorem boils_of (W S b : Int) (hW : 0 ≤ W) (hW1 : W ≤ 4294967295) (hS : 0 < S) (hS1 : S ≤ 4294967295) (b0 : 1 ≤ b) (b1 : b ≤ 10000) (w : Int) (hw : w = max 0 (W + S - S * 10000 / b)) :
    Boils W S b w (S * 10000 / (W + S)) (-(-(S * 10000) / (W + S))) (S * 10000 / (W - w + S)) (-(-(S * 10000) / (W - w + S))) := by
  have hq1 := fl_le (N := S * 10000) (m := b) (by omega)
  have hq2 := fl_lt (N := S * 10000) (m := b) (by omega)
  have hqS : S ≤ S * 10000 / b := fl_ge (by omega) (Int.mul_le_mul_of_nonneg_left b1 (by omega))
  generalize S * 10000 / b = q at *
  have hw0 : 0 ≤ w := by omega
  have hw1 : w ≤ W := by omega
  have hm' : W - w + S ≤ q := by omega
  have hc3 : b * (W - w + S) ≤ S * 10000 := Int.le_trans (Int.mul_le_mul_of_nonneg_left hm' (by omega)) hq1
  have hN : 0 ≤ S * 10000 := by omega
  obtain ⟨p1, p2⟩ := prod_bd (m := W - w + S) b0 b1 (by omega) (by omega)
  obtain ⟨p3, p4⟩ := prod_bd (m := W - w + 1 + S) b0 b1 (by omega) (by omega)
  refine ⟨hw0, hw1, hc3, fun h => ?_, fl_ge (by omega) hc3, fl_mono hN (by omega) (by omega), ce_mono hN (by omega) (by omega), fl_ce (by omega), Int.ediv_nonneg hN (by omega), ce_le (by omega) ?_, ?_, p1, p2, p3, p4⟩
  · have e : W - w + 1 + S = q + 1 := by omega
    rw [e]; exact hq2
  · have : S * 10000 ≤ (W - w + S) * 10000 := Int.mul_le_mul_of_nonneg_right (by omega) (by omega)
    rw [Int.mul_comm 10000]; exact this
  · constructor
    · intro h
      subst h
      refine fl_ge (by omega) ?_
      have : W - 0 + S = W + S := by omega
      rw [this] at hc3
      exact hc3
    · intro h
      have h1 := fl_le (N := S * 10000) (m := W + S) (by omega)
      have h2 : b * (W + S) ≤ S * 10000 := by
        have := Int.mul_le_mul_of_nonneg_left h (show 0 ≤ W + S by omega)
        rw [Int.mul_comm b]
        omega
      have h3 : W + S ≤ q := by
        by_cases h4 : W + S ≤ q
        · exact h4
        · exfalso
          have h5 : b * (q + 1) ≤ b * (W + S) := Int.mul_le_mul_of_nonneg_left (by omega) (by omega)
          omega
      omega
end Go.Proofs.Ytloddjjmoaljhaa

