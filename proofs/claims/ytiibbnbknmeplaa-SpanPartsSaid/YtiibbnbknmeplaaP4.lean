/- Plain arithmetic: whatever numbers two ranges have, the results lie in what is returned. -/
import Derived.Test.YtiibbnbknmeplaaD5
import Derived.Test.YtiibbnbknmeplaaP3
namespace Go.Proofs.Ytiibbnbknmeplaa
set_option linter.unusedVariables false
set_option linter.unusedSimpArgs false

/-- the quotient by a number below 0 -/
theorem q_neg {a b c : Int} (hc : c < 0) (h : a.natAbs * b.natAbs / c.natAbs ≤ 1000000000000000000) : qLo a b c = (-(a * b)) / (-c) ∧ qHi a b c = -((a * b) / (-c)) := by
  have h' : (-a).natAbs * b.natAbs / (-c).natAbs ≤ 1000000000000000000 := by rw [Int.natAbs_neg, Int.natAbs_neg]; exact h
  have hp := q_pos (a := -a) (b := b) (c := -c) (by omega) h'
  have hw : qW (-a) b (-c) = qW a b c := by unfold qW; rw [Int.natAbs_neg, Int.natAbs_neg]
  have hr : qR (-a) b (-c) = qR a b c := by unfold qR; rw [Int.natAbs_neg, Int.natAbs_neg]
  rw [Int.neg_mul, Int.neg_neg] at hp
  by_cases ha : a = 0
  · subst ha
    have e1 : qW 0 b c = 0 := by unfold qW; simp
    have e2 : qR 0 b c = 0 := by unfold qR; simp
    unfold qLo qHi
    rw [e1, e2]
    simp
  · have hn : qNeg (-a) b (-c) = qNeg a b c := by
      unfold qNeg
      rw [show decide (-c < 0) = false from by simp; omega, show decide (c < 0) = true from by simpa using hc]
      rcases Int.lt_or_gt_of_ne ha with h1 | h1
      · rw [show decide (-a < 0) = false from by simp; omega, show decide (a < 0) = true from by simpa using h1]
        cases decide (b < 0) <;> rfl
      · rw [show decide (-a < 0) = true from by simp; omega, show decide (a < 0) = false from by simp; omega]
        cases decide (b < 0) <;> rfl
    unfold qLo qHi at hp ⊢
    rw [hn, hw, hr] at hp
    exact hp

theorem natAbs_le {a B : Int} (h1 : -B ≤ a) (h2 : a ≤ B) : (a.natAbs : Int) ≤ B := by omega
theorem prod_abs {a b : Int} (A B : Nat) (h1 : a.natAbs ≤ A) (h2 : b.natAbs ≤ B) : a.natAbs * b.natAbs ≤ A * B := Nat.mul_le_mul h1 h2
theorem prod_div_le (a b c : Int) (A B : Nat) (h1 : a.natAbs ≤ A) (h2 : b.natAbs ≤ B) (h : A * B ≤ 1000000000000000000) : a.natAbs * b.natAbs / c.natAbs ≤ 1000000000000000000 :=
  Nat.le_trans (Nat.div_le_self _ _) (Nat.le_trans (prod_abs A B h1 h2) h)

theorem ar_one {a b : Int} (h1 : a.natAbs ≤ 20000000) (h2 : b.natAbs ≤ 20000000) : arP a b 1 = (a * b, a * b) := by
  have := q_pos (a := a) (b := b) (c := 1) (by omega) (prod_div_le a b 1 20000000 20000000 h1 h2 (by omega))
  unfold arP
  rw [this.1, this.2, Int.ediv_one, Int.ediv_one, Int.neg_neg]

/-- a product lies between those of the ends -/
theorem mul_between {m n xl xh yl yh : Int} (m1 : xl ≤ m) (m2 : m ≤ xh) (n1 : yl ≤ n) (n2 : n ≤ yh) :
    min (min (min (xl * yl) (xl * yh)) (xh * yl)) (xh * yh) ≤ m * n ∧ m * n ≤ max (max (max (xl * yl) (xl * yh)) (xh * yl)) (xh * yh) := by
  have one : ∀ (k : Int), min (k * yl) (k * yh) ≤ k * n ∧ k * n ≤ max (k * yl) (k * yh) := by
    intro k
    by_cases hk : 0 ≤ k
    · have := Int.mul_le_mul_of_nonneg_left n1 hk
      have := Int.mul_le_mul_of_nonneg_left n2 hk
      omega
    · have := Int.mul_le_mul_of_nonpos_left (a := k) (by omega) n1
      have := Int.mul_le_mul_of_nonpos_left (a := k) (by omega) n2
      omega
  have two : min (xl * n) (xh * n) ≤ m * n ∧ m * n ≤ max (xl * n) (xh * n) := by
    by_cases hn : 0 ≤ n
    · have := Int.mul_le_mul_of_nonneg_right m1 hn
      have := Int.mul_le_mul_of_nonneg_right m2 hn
      omega
    · have := Int.mul_le_mul_of_nonpos_right m1 (show n ≤ 0 by omega)
      have := Int.mul_le_mul_of_nonpos_right m2 (show n ≤ 0 by omega)
      omega
  have h1 := one xl
  have h2 := one xh
  omega
theorem mul_bd {m n A B : Int} (m1 : -A ≤ m) (m2 : m ≤ A) (n1 : -B ≤ n) (n2 : n ≤ B) (hA : 0 ≤ A) (hB : 0 ≤ B) : -(A * B) ≤ m * n ∧ m * n ≤ A * B := by
  have h := mul_between m1 m2 n1 n2
  rw [Int.neg_mul, Int.neg_mul, Int.mul_neg] at h
  have := Int.mul_nonneg hA hB
  omega

/-- a range of numbers that are not great -/
def Sm (l h : Int) : Prop := -11000000 ≤ l ∧ l ≤ h ∧ h ≤ 11000000
theorem Sm.vr {l h : Int} (s : Sm l h) : vrB l h = true := by obtain ⟨a, b, c⟩ := s; simp [vrB]; omega
theorem fit_in {l h : Int} (h1 : -1000000000000000 ≤ l) (h2 : h ≤ 1000000000000000) : fitL l h = l ∧ fitH l h = h ∧ fitE l h = 0 := fit_yes l h (by omega) (by omega)
theorem sum_two {xl xh yl yh : Int} (x : Sm xl xh) (y : Sm yl yh) : smL [(xl, xh), (yl, yh)] = xl + yl ∧ smH [(xl, xh), (yl, yh)] = xh + yh ∧ smE [(xl, xh), (yl, yh)] = 0 := by
  have hc : chkL [(xl, xh), (yl, yh)] = 0 := chkL_yes (by simp) (by simp [vrsB, x.vr, y.vr])
  obtain ⟨x1, x2, x3⟩ := x
  obtain ⟨y1, y2, y3⟩ := y
  have hs : sumP [(xl, xh), (yl, yh)] = (xl + yl, xh + yh) := by simp [sumP, sumJ]
  obtain ⟨f1, f2, f3⟩ := fit_in (l := xl + yl) (h := xh + yh) (by omega) (by omega)
  unfold smL smH smE
  rw [hc, if_pos rfl, if_pos rfl, if_pos rfl, hs]
  exact ⟨f1, f2, f3⟩
theorem less_two {xl xh yl yh : Int} (x : Sm xl xh) (y : Sm yl yh) : lsL xl xh yl yh = xl - yh ∧ lsH xl xh yl yh = xh - yl ∧ lsE xl xh yl yh = 0 := by
  have hc : (vrB xl xh && vrB yl yh) = true := by rw [x.vr, y.vr]; rfl
  obtain ⟨x1, x2, x3⟩ := x
  obtain ⟨y1, y2, y3⟩ := y
  obtain ⟨f1, f2, f3⟩ := fit_in (l := xl - yh) (h := xh - yl) (by omega) (by omega)
  unfold lsL lsH lsE
  rw [hc, if_pos rfl, if_pos rfl, if_pos rfl]
  exact ⟨f1, f2, f3⟩
def mn4 (xl xh yl yh : Int) : Int := min (min (min (xl * yl) (xl * yh)) (xh * yl)) (xh * yh)
def mx4 (xl xh yl yh : Int) : Int := max (max (max (xl * yl) (xl * yh)) (xh * yl)) (xh * yh)
theorem times_two {xl xh yl yh : Int} (x : Sm xl xh) (y : Sm yl yh) : tmL xl xh yl yh = mn4 xl xh yl yh ∧ tmH xl xh yl yh = mx4 xl xh yl yh ∧ tmE xl xh yl yh = 0 := by
  have hc : (vrB xl xh && vrB yl yh) = true := by rw [x.vr, y.vr]; rfl
  obtain ⟨x1, x2, x3⟩ := x
  obtain ⟨y1, y2, y3⟩ := y
  have hp : timesP xl xh yl yh = (mn4 xl xh yl yh, mx4 xl xh yl yh) := by
    unfold timesP mn4 mx4
    rw [ar_one (by omega) (by omega), ar_one (by omega) (by omega), ar_one (by omega) (by omega), ar_one (by omega) (by omega)]
    rfl
  have b1 := mul_bd (m := xl) (n := yl) (A := 11000000) (B := 11000000) (by omega) (by omega) (by omega) (by omega) (by omega) (by omega)
  have b2 := mul_bd (m := xl) (n := yh) (A := 11000000) (B := 11000000) (by omega) (by omega) (by omega) (by omega) (by omega) (by omega)
  have b3 := mul_bd (m := xh) (n := yl) (A := 11000000) (B := 11000000) (by omega) (by omega) (by omega) (by omega) (by omega) (by omega)
  have b4 := mul_bd (m := xh) (n := yh) (A := 11000000) (B := 11000000) (by omega) (by omega) (by omega) (by omega) (by omega) (by omega)
  have hb : -1000000000000000 ≤ mn4 xl xh yl yh ∧ mx4 xl xh yl yh ≤ 1000000000000000 := by unfold mn4 mx4; omega
  obtain ⟨f1, f2, f3⟩ := fit_in hb.1 hb.2
  unfold tmL tmH tmE
  rw [hc, if_pos rfl, if_pos rfl, if_pos rfl, hp]
  exact ⟨f1, f2, f3⟩
theorem times_has {m n xl xh yl yh : Int} (m1 : xl ≤ m) (m2 : m ≤ xh) (n1 : yl ≤ n) (n2 : n ≤ yh) : mn4 xl xh yl yh ≤ m * n ∧ m * n ≤ mx4 xl xh yl yh := mul_between m1 m2 n1 n2
theorem times_inside {m xl xh yl yh : Int} (m1 : xl ≤ m) (m2 : m ≤ xh) (y : yl ≤ yh) : mn4 xl xh yl yh ≤ mn4 m xh yl yh ∧ mx4 m xh yl yh ≤ mx4 xl xh yl yh := by
  have a1 := times_has (yl := yl) (yh := yh) m1 m2 (Int.le_refl yl) y
  have a2 := times_has (yl := yl) (yh := yh) m1 m2 y (Int.le_refl yh)
  have a3 := times_has (yl := yl) (yh := yh) (Int.le_trans m1 m2) (Int.le_refl xh) (Int.le_refl yl) y
  have a4 := times_has (yl := yl) (yh := yh) (Int.le_trans m1 m2) (Int.le_refl xh) y (Int.le_refl yh)
  unfold mn4 mx4 at *
  omega

/-- a part of a range -/
def skL (xl xh n d : Int) : Int := min (xl * n / d) (xh * n / d)
def skH (xl xh n d : Int) : Int := max (-(-(xl * n) / d)) (-(-(xh * n) / d))
theorem scale_two {xl xh n d : Int} (x : Sm xl xh) (n1 : -11000000 ≤ n) (n2 : n ≤ 11000000) (d1 : 1 ≤ d) (d2 : d ≤ 1000) : scL xl xh n d = skL xl xh n d ∧ scH xl xh n d = skH xl xh n d ∧ scE xl xh n d = 0 := by
  have hv := x.vr
  obtain ⟨x1, x2, x3⟩ := x
  have hf : frB n d = true := by simp [frB]; omega
  have q1 := q_pos (a := xl) (b := n) (c := d) (by omega) (prod_div_le xl n d 20000000 20000000 (by omega) (by omega) (by omega))
  have q2 := q_pos (a := xh) (b := n) (c := d) (by omega) (prod_div_le xh n d 20000000 20000000 (by omega) (by omega) (by omega))
  have hp : scaleP xl xh n d = (skL xl xh n d, skH xl xh n d) := by
    unfold scaleP skL skH
    rw [q1.1, q1.2, q2.1, q2.2]
  have b1 := mul_bd (m := xl) (n := n) (A := 11000000) (B := 11000000) (by omega) (by omega) (by omega) (by omega) (by omega) (by omega)
  have b2 := mul_bd (m := xh) (n := n) (A := 11000000) (B := 11000000) (by omega) (by omega) (by omega) (by omega) (by omega) (by omega)
  have e1 : -1000000000000000 ≤ xl * n / d := fl_ge (by omega) (by
    have : -1000000000000000 * d ≤ -1000000000000000 := by omega
    omega)
  have e2 : -1000000000000000 ≤ xh * n / d := fl_ge (by omega) (by
    have : -1000000000000000 * d ≤ -1000000000000000 := by omega
    omega)
  have e3 : -(-(xl * n) / d) ≤ 1000000000000000 := ce_le (by omega) (by
    have : 1000000000000000 ≤ 1000000000000000 * d := by omega
    omega)
  have e4 : -(-(xh * n) / d) ≤ 1000000000000000 := ce_le (by omega) (by
    have : 1000000000000000 ≤ 1000000000000000 * d := by omega
    omega)
  have hb : -1000000000000000 ≤ skL xl xh n d ∧ skH xl xh n d ≤ 1000000000000000 := by unfold skL skH; omega
  obtain ⟨f1, f2, f3⟩ := fit_in hb.1 hb.2
  unfold scL scH scE
  rw [hv, hf, if_pos rfl, if_pos rfl, if_pos rfl, if_pos rfl, if_pos rfl, if_pos rfl, hp]
  exact ⟨f1, f2, f3⟩
theorem scale_has {m n d xl xh : Int} (m1 : xl ≤ m) (m2 : m ≤ xh) (d1 : 1 ≤ d) : skL xl xh n d * d ≤ m * n ∧ m * n ≤ skH xl xh n d * d ∧ skL xl xh n d ≤ skH xl xh n d := by
  have two : min (xl * n) (xh * n) ≤ m * n ∧ m * n ≤ max (xl * n) (xh * n) := by
    by_cases hn : 0 ≤ n
    · have := Int.mul_le_mul_of_nonneg_right m1 hn
      have := Int.mul_le_mul_of_nonneg_right m2 hn
      omega
    · have := Int.mul_le_mul_of_nonpos_right m1 (show n ≤ 0 by omega)
      have := Int.mul_le_mul_of_nonpos_right m2 (show n ≤ 0 by omega)
      omega
  have f1 := fl_le (N := xl * n) (m := d) (by omega)
  have f2 := fl_le (N := xh * n) (m := d) (by omega)
  have g1 := ce_ge (N := xl * n) (m := d) (by omega)
  have g2 := ce_ge (N := xh * n) (m := d) (by omega)
  rw [Int.mul_comm d] at f1 f2
  have c1 := fl_ce (N := xl * n) (m := d) (by omega)
  have c2 := fl_ce (N := xh * n) (m := d) (by omega)
  unfold skL skH
  generalize xl * n / d = A at *
  generalize xh * n / d = B at *
  generalize -(-(xl * n) / d) = C at *
  generalize -(-(xh * n) / d) = D at *
  have l1 : min A B * d ≤ A * d := Int.mul_le_mul_of_nonneg_right (Int.min_le_left _ _) (by omega)
  have l2 : min A B * d ≤ B * d := Int.mul_le_mul_of_nonneg_right (Int.min_le_right _ _) (by omega)
  have l3 : C * d ≤ max C D * d := Int.mul_le_mul_of_nonneg_right (Int.le_max_left _ _) (by omega)
  have l4 : D * d ≤ max C D * d := Int.mul_le_mul_of_nonneg_right (Int.le_max_right _ _) (by omega)
  refine ⟨by omega, by omega, by omega⟩
theorem scale_inside {m n d xl xh : Int} (m1 : xl ≤ m) (m2 : m ≤ xh) (d1 : 1 ≤ d) : skL xl xh n d ≤ skL m xh n d ∧ skH m xh n d ≤ skH xl xh n d := by
  obtain ⟨h1, h2, _⟩ := scale_has (n := n) m1 m2 d1
  have e1 : skL xl xh n d ≤ m * n / d := fl_ge (by omega) h1
  have e2 : -(-(m * n) / d) ≤ skH xl xh n d := ce_le (by omega) h2
  have e3 : skL xl xh n d ≤ xh * n / d := by unfold skL; exact Int.min_le_right _ _
  have e4 : -(-(xh * n) / d) ≤ skH xl xh n d := by unfold skH; exact Int.le_max_right _ _
  refine ⟨?_, ?_⟩
  · rw [show skL m xh n d = min (m * n / d) (xh * n / d) from rfl]; omega
  · rw [show skH m xh n d = max (-(-(m * n) / d)) (-(-(xh * n) / d)) from rfl]; omega

theorem hull_two {xl xh yl yh : Int} (x : Sm xl xh) (y : Sm yl yh) : huL [(xl, xh), (yl, yh)] = min xl yl ∧ huH [(xl, xh), (yl, yh)] = max xh yh ∧ huE [(xl, xh), (yl, yh)] = 0 := by
  have hc : chkL [(xl, xh), (yl, yh)] = 0 := chkL_yes (by simp) (by simp [vrsB, x.vr, y.vr])
  have hs : chkS [(xl, xh), (yl, yh)] = 0 := by unfold chkS; rw [hc, if_pos rfl]; simp
  unfold huL huH huE
  rw [hs, if_pos rfl, if_pos rfl, if_pos rfl]
  exact ⟨rfl, rfl, rfl⟩
theorem meet_two {xl xh yl yh : Int} (x : Sm xl xh) (y : Sm yl yh) : meL [(min xl yl, max xh yh), (xl, xh)] = xl ∧ meH [(min xl yl, max xh yh), (xl, xh)] = xh ∧ meE [(min xl yl, max xh yh), (xl, xh)] = 0 := by
  have hu : Sm (min xl yl) (max xh yh) := by obtain ⟨x1, x2, x3⟩ := x; obtain ⟨y1, y2, y3⟩ := y; exact ⟨by omega, by omega, by omega⟩
  have hc : chkL [(min xl yl, max xh yh), (xl, xh)] = 0 := chkL_yes (by simp) (by simp [vrsB, x.vr, hu.vr])
  have hs : chkS [(min xl yl, max xh yh), (xl, xh)] = 0 := by unfold chkS; rw [hc, if_pos rfl]; simp
  have hm : meetP [(min xl yl, max xh yh), (xl, xh)] = (xl, xh) := by
    obtain ⟨x1, x2, x3⟩ := x
    simp only [meetP, meetJ, List.foldl_cons, List.foldl_nil, Prod.mk.injEq]
    omega
  obtain ⟨x1, x2, x3⟩ := x
  unfold meL meH meE
  rw [hs, if_pos rfl, if_pos rfl, if_pos rfl, hm]
  simp only
  rw [if_neg (by omega), if_neg (by omega), if_neg (by omega)]
  exact ⟨rfl, rfl, rfl⟩
end Go.Proofs.Ytiibbnbknmeplaa
