/- Plain arithmetic: all quotients of two ranges. -/
import Derived.Test.YtgakniehfnegiaaP4
namespace Go.Proofs.Ytgakniehfnegiaa
set_option linter.unusedVariables false
set_option linter.unusedSimpArgs false

theorem ar_quo {a c : Int} (hc : c ≠ 0) (h1 : -11000000 ≤ a) (h2 : a ≤ 11000000) : ∃ f e : Int, arP a 1 c = (f, e) ∧ f ≤ e ∧ -11000000 ≤ f ∧ e ≤ 11000000 ∧ (0 < c → f * c ≤ a ∧ a ≤ e * c) ∧ (c < 0 → a ≤ f * c ∧ e * c ≤ a) := by
  have hd := prod_div_le a 1 c 20000000 1 (by omega) (by omega) (by omega)
  rcases Int.lt_or_gt_of_ne hc with hn | hp
  · have hq := q_neg (a := a) (b := 1) (c := c) hn hd
    rw [Int.mul_one] at hq
    have f1 := fl_le (N := -a) (m := -c) (by omega)
    have g1 := fl_le (N := a) (m := -c) (by omega)
    have t1 : -11000000 * -c ≤ -a := by omega
    have t2 : -a ≤ 11000000 * -c := by omega
    have b1 := fl_ge (N := -a) (m := -c) (k := -11000000) (by omega) t1
    have b2 : -(-(-a) / -c) ≤ 11000000 := ce_le (by omega) t2
    have c1 := fl_ce (N := -a) (m := -c) (by omega)
    rw [Int.neg_neg] at b2 c1
    refine ⟨-a / -c, -(a / -c), by unfold arP; rw [hq.1, hq.2], by omega, b1, b2, fun h => by omega, fun _ => ?_⟩
    rw [Int.mul_comm (-c), Int.mul_neg] at f1 g1
    rw [Int.neg_mul]
    omega
  · have hq := q_pos (a := a) (b := 1) (c := c) hp hd
    rw [Int.mul_one] at hq
    have f1 := fl_le (N := a) (m := c) hp
    have g1 := ce_ge (N := a) (m := c) hp
    have t1 : -11000000 * c ≤ a := by omega
    have t2 : a ≤ 11000000 * c := by omega
    have b1 := fl_ge (N := a) (m := c) (k := -11000000) hp t1
    have b2 : -(-a / c) ≤ 11000000 := ce_le hp t2
    have c1 := fl_ce (N := a) (m := c) hp
    rw [Int.mul_comm c] at f1
    exact ⟨a / c, -(-a / c), by unfold arP; rw [hq.1, hq.2], by omega, b1, b2, fun _ => ⟨f1, g1⟩, fun h => by omega⟩

/-- what is known of all quotients -/
structure OverN (xl xh yl yh m n L H : Int) : Prop where
  eL : ovL xl xh yl yh = L
  eH : ovH xl xh yl yh = H
  eE : ovE xl xh yl yh = 0
  le : L ≤ H
  bl : -11000000 ≤ L
  bh : H ≤ 11000000
  pos : 0 < n → L * n ≤ m ∧ m ≤ H * n
  neg : n < 0 → H * n ≤ m ∧ m ≤ L * n

theorem quo_le {L n yl yh m x : Int} (hx : x ≤ m) (k1 : L * yl ≤ x) (k2 : L * yh ≤ x) (n1 : yl ≤ n) (n2 : n ≤ yh) : L * n ≤ m := by
  by_cases h : 0 ≤ L
  · have := Int.mul_le_mul_of_nonneg_left n2 h
    omega
  · have := Int.mul_le_mul_of_nonpos_left (a := L) (by omega) n1
    omega
theorem quo_ge {H n yl yh m x : Int} (hx : m ≤ x) (k1 : x ≤ H * yl) (k2 : x ≤ H * yh) (n1 : yl ≤ n) (n2 : n ≤ yh) : m ≤ H * n := by
  by_cases h : 0 ≤ H
  · have := Int.mul_le_mul_of_nonneg_left n1 h
    omega
  · have := Int.mul_le_mul_of_nonpos_left (a := H) (by omega) n2
    omega
set_option maxHeartbeats 2000000 in
theorem over_two {xl xh yl yh m n : Int} (x : Sm xl xh) (y : Sm yl yh) (hz : 0 < yl ∨ yh < 0) (m1 : xl ≤ m) (m2 : m ≤ xh) (n1 : yl ≤ n) (n2 : n ≤ yh) : ∃ L H, OverN xl xh yl yh m n L H := by
  have hc : (vrB xl xh && vrB yl yh) = true := by rw [x.vr, y.vr]; rfl
  obtain ⟨x1, x2, x3⟩ := x
  obtain ⟨y1, y2, y3⟩ := y
  have hz' : ¬ (yl ≤ 0 ∧ 0 ≤ yh) := by omega
  obtain ⟨f1, e1, a1, l1, b1, c1, p1, q1⟩ := ar_quo (a := xl) (c := yl) (by omega) (by omega) (by omega)
  obtain ⟨f2, e2, a2, l2, b2, c2, p2, q2⟩ := ar_quo (a := xl) (c := yh) (by omega) (by omega) (by omega)
  obtain ⟨f3, e3, a3, l3, b3, c3, p3, q3⟩ := ar_quo (a := xh) (c := yl) (by omega) (by omega) (by omega)
  obtain ⟨f4, e4, a4, l4, b4, c4, p4, q4⟩ := ar_quo (a := xh) (c := yh) (by omega) (by omega) (by omega)
  obtain ⟨L, hL⟩ : ∃ L, L = min (min (min f1 f2) f3) f4 := ⟨_, rfl⟩
  obtain ⟨H, hH⟩ : ∃ H, H = max (max (max e1 e2) e3) e4 := ⟨_, rfl⟩
  have hp : overP xl xh yl yh = (L, H) := by
    unfold overP
    rw [a1, a2, a3, a4, hL, hH]
    rfl
  obtain ⟨g1, g2, g3⟩ := fit_in (l := L) (h := H) (by omega) (by omega)
  have L1 : L ≤ f1 := by omega
  have L2 : L ≤ f2 := by omega
  have L3 : L ≤ f3 := by omega
  have L4 : L ≤ f4 := by omega
  have H1 : e1 ≤ H := by omega
  have H2 : e2 ≤ H := by omega
  have H3 : e3 ≤ H := by omega
  have H4 : e4 ≤ H := by omega
  refine ⟨L, H, ?_, ?_, ?_, by omega, by omega, by omega, fun hn => ?_, fun hn => ?_⟩
  · unfold ovL; rw [hc, if_pos rfl, if_neg hz', hp]; exact g1
  · unfold ovH; rw [hc, if_pos rfl, if_neg hz', hp]; exact g2
  · unfold ovE; rw [hc, if_pos rfl, if_neg hz', hp]; exact g3
  · have hy : 0 < yl := by omega
    obtain ⟨p1a, _⟩ := p1 hy
    obtain ⟨p2a, _⟩ := p2 (by omega)
    obtain ⟨_, p3b⟩ := p3 hy
    obtain ⟨_, p4b⟩ := p4 (by omega)
    have k1 : L * yl ≤ f1 * yl := Int.mul_le_mul_of_nonneg_right L1 (by omega)
    have k2 : L * yh ≤ f2 * yh := Int.mul_le_mul_of_nonneg_right L2 (by omega)
    have k3 : e3 * yl ≤ H * yl := Int.mul_le_mul_of_nonneg_right H3 (by omega)
    have k4 : e4 * yh ≤ H * yh := Int.mul_le_mul_of_nonneg_right H4 (by omega)
    exact ⟨quo_le m1 (Int.le_trans k1 p1a) (Int.le_trans k2 p2a) n1 n2, quo_ge m2 (Int.le_trans p3b k3) (Int.le_trans p4b k4) n1 n2⟩
  · have hy : yh < 0 := by omega
    obtain ⟨_, q1b⟩ := q1 (by omega)
    obtain ⟨_, q2b⟩ := q2 hy
    obtain ⟨q3a, _⟩ := q3 (by omega)
    obtain ⟨q4a, _⟩ := q4 hy
    have k1 : H * yl ≤ e1 * yl := Int.mul_le_mul_of_nonpos_right H1 (by omega)
    have k2 : H * yh ≤ e2 * yh := Int.mul_le_mul_of_nonpos_right H2 (by omega)
    have k3 : f3 * yl ≤ L * yl := Int.mul_le_mul_of_nonpos_right L3 (by omega)
    have k4 : f4 * yh ≤ L * yh := Int.mul_le_mul_of_nonpos_right L4 (by omega)
    exact ⟨quo_le m1 (Int.le_trans k1 q1b) (Int.le_trans k2 q2b) n1 n2, quo_ge m2 (Int.le_trans q3a k3) (Int.le_trans q4a k4) n1 n2⟩
theorem over_zero {xl xh yl yh : Int} (x : Sm xl xh) (y : Sm yl yh) (hz : yl ≤ 0 ∧ 0 ≤ yh) : ovL xl xh yl yh = 0 ∧ ovH xl xh yl yh = 0 ∧ ovE xl xh yl yh = 3 := by
  have hc : (vrB xl xh && vrB yl yh) = true := by rw [x.vr, y.vr]; rfl
  unfold ovL ovH ovE
  rw [hc, if_pos rfl, if_pos rfl, if_pos rfl, if_pos hz, if_pos hz, if_pos hz]
  exact ⟨rfl, rfl, rfl⟩
end Go.Proofs.Ytgakniehfnegiaa
