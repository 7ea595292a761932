/- Plain arithmetic: the reference's numbers and span's are the same, or both far too great. -/
import Derived.Test.YtiibbnbknmeplaaR3
import Derived.Test.YtiibbnbknmeplaaP4
namespace Go.Proofs.Ytiibbnbknmeplaa
set_option linter.unusedVariables false
set_option linter.unusedSimpArgs false

/-- the same, or both too great, or both too small -/
def Ag (u v : Int) : Prop := u = v ∨ (1000000000000000 < u ∧ 1000000000000000 < v) ∨ (u < -1000000000000000 ∧ v < -1000000000000000)
theorem Ag.min {a b c d : Int} (h : Ag a b) (k : Ag c d) : Ag (min a c) (min b d) := by unfold Ag at *; omega
theorem Ag.max {a b c d : Int} (h : Ag a b) (k : Ag c d) : Ag (max a c) (max b d) := by unfold Ag at *; omega
theorem ag_fit {l h l' h' : Int} (a : Ag l l') (b : Ag h h') (u : l ≤ h) (v : l' ≤ h') : fitL l h = fitL l' h' ∧ fitH l h = fitH l' h' ∧ fitE l h = fitE l' h' := by
  unfold Ag at a b
  by_cases c : l < -1000000000000000 ∨ 1000000000000000 < h
  · obtain ⟨e1, e2, e3⟩ := fit_no l h c
    obtain ⟨f1, f2, f3⟩ := fit_no l' h' (by omega)
    rw [e1, e2, e3, f1, f2, f3]
    exact ⟨rfl, rfl, rfl⟩
  · rw [show l = l' by omega, show h = h' by omega]
    exact ⟨rfl, rfl, rfl⟩

/-- a quotient that is too great -/
theorem q_big {a b c : Int} (hc : 0 < c) (h : 1000000000000000000 < a.natAbs * b.natAbs / c.natAbs) :
    (0 < a * b ∧ qLo a b c = 1000000000000000000 ∧ qHi a b c = 1000000000000000000) ∨ (a * b < 0 ∧ qLo a b c = -1000000000000000000 ∧ qHi a b c = -1000000000000000000) := by
  have hw : qW a b c = 1000000000000000000 := by unfold qW; rw [if_pos h]
  have hr : qR a b c = 0 := by unfold qR; rw [if_pos h]
  have ha : a ≠ 0 := fun e => by subst e; simp at h
  have hb : b ≠ 0 := fun e => by subst e; simp at h
  have hn : qNeg a b c = (decide (a < 0) != decide (b < 0)) := by
    unfold qNeg
    rw [show decide (c < 0) = false from by simp; omega]
    simp
  unfold qLo qHi
  rw [hw, hr, hn]
  rcases Int.lt_or_gt_of_ne ha with h1 | h1 <;> rcases Int.lt_or_gt_of_ne hb with h2 | h2
  · rw [decide_eq_true h1, decide_eq_true h2]
    exact Or.inl ⟨Int.mul_pos_of_neg_of_neg h1 h2, rfl, rfl⟩
  · rw [decide_eq_true h1, decide_eq_false (by omega : ¬ b < 0)]
    exact Or.inr ⟨Int.mul_neg_of_neg_of_pos h1 h2, rfl, rfl⟩
  · rw [decide_eq_false (by omega : ¬ a < 0), decide_eq_true h2]
    exact Or.inr ⟨Int.mul_neg_of_pos_of_neg h1 h2, rfl, rfl⟩
  · rw [decide_eq_false (by omega : ¬ a < 0), decide_eq_false (by omega : ¬ b < 0)]
    exact Or.inl ⟨Int.mul_pos h1 h2, rfl, rfl⟩

theorem ag_prd (a b : Int) : Ag (qLo a b 1) (prd a b) ∧ Ag (qHi a b 1) (prd a b) := by
  have hq : (qLo a b 1 = a * b ∧ qHi a b 1 = a * b) ∨ (1000000000000000000 < (a * b).natAbs ∧ ((0 < a * b ∧ qLo a b 1 = 1000000000000000000 ∧ qHi a b 1 = 1000000000000000000) ∨ (a * b < 0 ∧ qLo a b 1 = -1000000000000000000 ∧ qHi a b 1 = -1000000000000000000))) := by
    by_cases h : a.natAbs * b.natAbs / (1 : Int).natAbs ≤ 1000000000000000000
    · obtain ⟨e1, e2⟩ := q_pos (a := a) (b := b) (c := 1) (by omega) h
      rw [Int.ediv_one] at e1 e2
      exact Or.inl ⟨e1, by rw [e2]; omega⟩
    · refine Or.inr ⟨?_, q_big (by omega) (by omega)⟩
      rw [Int.natAbs_mul]
      have : (1 : Int).natAbs = 1 := rfl
      rw [this, Nat.div_one] at h
      omega
  by_cases hS : prS a b
  · have h1 := prS_yes hS
    have h2 := prG_sign (a := a) (b := b) (fun e => by rw [e] at h1; simp at h1)
    have h3 : prd a b = prG a b := by rw [prd, if_pos hS]
    rw [h3]
    unfold Ag
    generalize a * b = p at *
    rcases Int.lt_or_le p 0 with h | h
    · rw [h2.2 h]; omega
    · rw [h2.1 (by omega)]; omega
  · have h1 := prS_no hS
    have h3 : prd a b = a * b := by rw [prd, if_neg hS]
    rw [h3]
    unfold Ag
    generalize a * b = p at *
    omega

def prLo (a1 a2 b1 b2 : Int) : Int := min (min (min (prd a1 b1) (prd a1 b2)) (prd a2 b1)) (prd a2 b2)
def prHi (a1 a2 b1 b2 : Int) : Int := max (max (max (prd a1 b1) (prd a1 b2)) (prd a2 b1)) (prd a2 b2)

theorem arP_le (a b : Int) : qLo a b 1 ≤ qHi a b 1 := by
  by_cases h : a.natAbs * b.natAbs / (1 : Int).natAbs ≤ 1000000000000000000
  · obtain ⟨e1, e2⟩ := q_pos (a := a) (b := b) (c := 1) (by omega) h
    rw [Int.ediv_one] at e1 e2
    omega
  · rcases q_big (a := a) (b := b) (c := 1) (by omega) (by omega) with h | h <;> omega
theorem times_fit {a1 a2 b1 b2 : Int} (va : -1000000000000000 ≤ a1 ∧ a1 ≤ a2 ∧ a2 ≤ 1000000000000000) (vb : -1000000000000000 ≤ b1 ∧ b1 ≤ b2 ∧ b2 ≤ 1000000000000000) :
    fitL (timesP a1 a2 b1 b2).1 (timesP a1 a2 b1 b2).2 = fitL (prLo a1 a2 b1 b2) (prHi a1 a2 b1 b2) ∧ fitH (timesP a1 a2 b1 b2).1 (timesP a1 a2 b1 b2).2 = fitH (prLo a1 a2 b1 b2) (prHi a1 a2 b1 b2) ∧
    fitE (timesP a1 a2 b1 b2).1 (timesP a1 a2 b1 b2).2 = fitE (prLo a1 a2 b1 b2) (prHi a1 a2 b1 b2) ∧ prLo a1 a2 b1 b2 ≤ prHi a1 a2 b1 b2 := by
  have e1 : (timesP a1 a2 b1 b2).1 = min (min (min (qLo a1 b1 1) (qLo a1 b2 1)) (qLo a2 b1 1)) (qLo a2 b2 1) := rfl
  have e2 : (timesP a1 a2 b1 b2).2 = max (max (max (qHi a1 b1 1) (qHi a1 b2 1)) (qHi a2 b1 1)) (qHi a2 b2 1) := rfl
  have hl := (((ag_prd a1 b1).1.min (ag_prd a1 b2).1).min (ag_prd a2 b1).1).min (ag_prd a2 b2).1
  have hh := (((ag_prd a1 b1).2.max (ag_prd a1 b2).2).max (ag_prd a2 b1).2).max (ag_prd a2 b2).2
  have le1 : prLo a1 a2 b1 b2 ≤ prHi a1 a2 b1 b2 := by unfold prLo prHi; omega
  have := arP_le a1 b1
  obtain ⟨f1, f2, f3⟩ := ag_fit hl hh (by omega) le1
  rw [e1, e2]
  exact ⟨f1, f2, f3, le1⟩

/-- scaled numbers -/
theorem ag_sd {x num den : Int} (hx : -1000000000000000 ≤ x ∧ x ≤ 1000000000000000) (hn : -1000000000 ≤ num ∧ num ≤ 1000000000) (hd : 1 ≤ den ∧ den ≤ 1000000000) :
    Ag (qLo x num den) (sdL x num den) ∧ Ag (qHi x num den) (sdH x num den) ∧ sdL x num den ≤ sdH x num den ∧ qLo x num den ≤ qHi x num den := by
  have hm := Int.emod_add_mul_ediv x den
  have r1 := Int.emod_nonneg x (show den ≠ 0 by omega)
  have r2 := Int.emod_lt_of_pos x (show 0 < den by omega)
  have s := mul_bnd (m := x % den) (n := num) (A := den) (B := 1000000000) (by omega) (by omega) (by omega) (by omega) (by omega) (by omega)
  have hP : x * num = x % den * num + x / den * num * den := by
    have h : (x % den + den * (x / den)) * num = x * num := by rw [hm]
    rw [← h, Int.add_mul, Int.mul_comm den (x / den), Int.mul_assoc, Int.mul_comm den num, ← Int.mul_assoc]
  have fl : ∀ z : Int, z / den ≤ -(-z / den) := fun z => by
    have h1 := Int.ediv_mul_le z (show den ≠ 0 by omega)
    have h2 := Int.ediv_mul_le (-z) (show den ≠ 0 by omega)
    have h3 : (z / den + -z / den) * den = z / den * den + -z / den * den := Int.add_mul _ _ _
    by_cases h : 1 ≤ z / den + -z / den
    · have := Int.mul_le_mul_of_nonneg_right h (show 0 ≤ den by omega)
      omega
    · omega
  have na : (x.natAbs * num.natAbs : Nat) = (x * num).natAbs := (Int.natAbs_mul x num).symm
  have hz := prS_no (a := x / den) (b := num)
  have hz1 := prS_yes (a := x / den) (b := num)
  have hz2 := prG_sign (a := x / den) (b := num)
  have eL : sdL x num den = if prS (x / den) num then prG (x / den) num else x / den * num + x % den * num / den := rfl
  have eH : sdH x num den = if prS (x / den) num then prG (x / den) num else x / den * num + -(-(x % den * num) / den) := rfl
  have qp := q_pos (a := x) (b := num) (c := den) (by omega)
  have qb := q_big (a := x) (b := num) (c := den) (by omega)
  rw [na] at qp qb
  by_cases hS : prS (x / den) num
  · rw [if_pos hS] at eL eH
    rw [eL, eH]
    have z1 := hz1 hS
    have z2 := hz2 (fun e => by rw [e] at z1; simp at z1)
    clear hz hz1 hz2 na hS eL eH hm r1 r2
    generalize x / den * num = z at *
    generalize x % den * num = t at *
    generalize x * num = P at *
    generalize prG (x / den) num = g at *
    rcases Int.lt_or_le 0 z with h | h
    · rw [z2.1 h]
      have h1 := Int.mul_le_mul_of_nonneg_right (show 4000000000000000 ≤ z by omega) (show 0 ≤ den by omega)
      have h2 : 3000000000000000 * den ≤ P := by omega
      have h3 := (Int.le_ediv_iff_mul_le (show 0 < den by omega)).2 h2
      have h4 := fl P
      unfold Ag
      by_cases hb : P.natAbs / den.natAbs ≤ 1000000000000000000
      · obtain ⟨e1, e2⟩ := qp hb
        rw [e1, e2]
        omega
      · rcases qb (by omega) with ⟨u, v, w⟩ | ⟨u, v, w⟩
        · rw [v, w]; omega
        · omega
    · rw [z2.2 (by omega)]
      have h1 := Int.mul_le_mul_of_nonneg_right (show 4000000000000000 ≤ -z by omega) (show 0 ≤ den by omega)
      rw [Int.neg_mul] at h1
      have h2 : 3000000000000000 * den ≤ -P := by omega
      have h3 := (Int.le_ediv_iff_mul_le (show 0 < den by omega)).2 h2
      have h4 := fl P
      unfold Ag
      by_cases hb : P.natAbs / den.natAbs ≤ 1000000000000000000
      · obtain ⟨e1, e2⟩ := qp hb
        rw [e1, e2]
        omega
      · rcases qb (by omega) with ⟨u, v, w⟩ | ⟨u, v, w⟩
        · omega
        · rw [v, w]; omega
  · rw [if_neg hS] at eL eH
    have z1 := hz hS
    have zd := mul_bnd (m := x / den * num) (n := den) (A := 4000000000000000) (B := den) (by omega) (by omega) (by omega) (by omega) (by omega) (by omega)
    have hb : (x * num).natAbs / den.natAbs ≤ 1000000000000000000 := by
      refine Nat.div_le_of_le_mul ?_
      omega
    obtain ⟨e1, e2⟩ := qp hb
    have k1 : x * num / den = x % den * num / den + x / den * num := by rw [hP, Int.add_mul_ediv_right _ _ (by omega : den ≠ 0)]
    have k2 : -(x * num) / den = -(x % den * num) / den + -(x / den * num) := by
      rw [show -(x * num) = -(x % den * num) + -(x / den * num) * den from by rw [hP, Int.neg_mul]; omega, Int.add_mul_ediv_right _ _ (by omega : den ≠ 0)]
    have k3 := fl (x * num)
    rw [eL, eH, e1, e2]
    unfold Ag
    omega

/-- a part of a range -/
theorem scale_fit {a1 a2 n d : Int} (va : -1000000000000000 ≤ a1 ∧ a1 ≤ a2 ∧ a2 ≤ 1000000000000000) (hn : -1000000000 ≤ n ∧ n ≤ 1000000000) (hd : 1 ≤ d ∧ d ≤ 1000000000) :
    fitL (scaleP a1 a2 n d).1 (scaleP a1 a2 n d).2 = fitL (min (sdL a1 n d) (sdL a2 n d)) (max (sdH a1 n d) (sdH a2 n d)) ∧
    fitH (scaleP a1 a2 n d).1 (scaleP a1 a2 n d).2 = fitH (min (sdL a1 n d) (sdL a2 n d)) (max (sdH a1 n d) (sdH a2 n d)) ∧
    fitE (scaleP a1 a2 n d).1 (scaleP a1 a2 n d).2 = fitE (min (sdL a1 n d) (sdL a2 n d)) (max (sdH a1 n d) (sdH a2 n d)) ∧ min (sdL a1 n d) (sdL a2 n d) ≤ max (sdH a1 n d) (sdH a2 n d) := by
  obtain ⟨x1, x2, x3, x4⟩ := ag_sd (x := a1) (by omega) hn hd
  obtain ⟨y1, y2, y3, y4⟩ := ag_sd (x := a2) (by omega) hn hd
  obtain ⟨f1, f2, f3⟩ := ag_fit (x1.min y1) (x2.max y2) (by omega) (by omega)
  exact ⟨f1, f2, f3, by omega⟩

/-- quotients -/
theorem over_q {a b : Int} (ha : -1000000000000000 ≤ a ∧ a ≤ 1000000000000000) (hb : b ≠ 0) :
    (0 < b → qLo a 1 b = a / b ∧ qHi a 1 b = -(-a / b)) ∧ (b < 0 → qLo a 1 b = -a / -b ∧ qHi a 1 b = -(-(-a) / -b)) ∧
    qLo a 1 b ≤ qHi a 1 b ∧ -1000000000000000 ≤ qLo a 1 b ∧ qLo a 1 b ≤ 1000000000000000 ∧ -1000000000000000 ≤ qHi a 1 b ∧ qHi a 1 b ≤ 1000000000000000 := by
  have hs : a.natAbs * (1 : Int).natAbs / b.natAbs ≤ 1000000000000000000 := by
    refine Nat.le_trans (Nat.div_le_self _ _) ?_
    have : (1 : Int).natAbs = 1 := rfl
    rw [this]
    omega
  have fl : ∀ z c : Int, 1 ≤ c → -1000000000000000 ≤ z → z ≤ 1000000000000000 → z / c ≤ -(-z / c) ∧ -1000000000000000 ≤ z / c ∧ z / c ≤ 1000000000000000 ∧ -1000000000000000 ≤ -(-z / c) ∧ -(-z / c) ≤ 1000000000000000 := fun z c hc z1 z2 => by
    have h1 := Int.ediv_mul_le z (show c ≠ 0 by omega)
    have h2 := Int.ediv_mul_le (-z) (show c ≠ 0 by omega)
    have h3 : (z / c + -z / c) * c = z / c * c + -z / c * c := Int.add_mul _ _ _
    have s1 := small_quo (s := z) (den := c) (B := 1000000000000000) hc (by omega) (by omega) (by omega)
    have s2 := small_quo (s := -z) (den := c) (B := 1000000000000000) hc (by omega) (by omega) (by omega)
    have : z / c + -z / c ≤ 0 := by
      by_cases h : 1 ≤ z / c + -z / c
      · have := Int.mul_le_mul_of_nonneg_right h (show 0 ≤ c by omega)
        omega
      · omega
    omega
  rcases Int.lt_or_gt_of_ne hb with h | h
  · obtain ⟨e1, e2⟩ := q_neg (a := a) (b := 1) h hs
    rw [Int.mul_one] at e1 e2
    obtain ⟨f1, f2, f3, f4, f5⟩ := fl (-a) (-b) (by omega) (by omega) (by omega)
    rw [Int.neg_neg] at *
    rw [e1, e2]
    exact ⟨fun _ => by omega, fun _ => ⟨rfl, rfl⟩, f1, f2, f3, f4, f5⟩
  · obtain ⟨e1, e2⟩ := q_pos (a := a) (b := 1) h hs
    rw [Int.mul_one] at e1 e2
    obtain ⟨f1, f2, f3, f4, f5⟩ := fl a b (by omega) (by omega) (by omega)
    rw [e1, e2]
    exact ⟨fun _ => ⟨rfl, rfl⟩, fun _ => by omega, f1, f2, f3, f4, f5⟩
end Go.Proofs.Ytiibbnbknmeplaa
