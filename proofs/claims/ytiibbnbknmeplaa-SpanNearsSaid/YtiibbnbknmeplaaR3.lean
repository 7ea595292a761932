/- Contracts: the reference's functions on ranges: valid, fits, absolute values, products, scaled numbers. -/
import Derived.Test.YtiibbnbknmeplaaR1
namespace Go.Proofs.Ytiibbnbknmeplaa
open Go.RowKit Go.Lib Go.Shelf
set_option linter.unusedVariables false
set_option linter.unusedSimpArgs false
attribute [local go_sem ↓] Go.wp_at_zero Go.wp_at_succ

theorem rrun_max2 {P : Program} (tys : Array TypeId) (ty : TypeId) (k : IntKind) (x y : Int) (w : World) : (Builtin.max_ tys ty #[.int k x, .int k y]).run P w = .ok (.int k (max x y)) w := by
  simp [Builtin.max_, Builtin.max2]
  split <;> omega
theorem vrB_in {lo hi : Int} (h : vrB lo hi = true) : -1000000000000000 ≤ lo ∧ lo ≤ hi ∧ hi ≤ 1000000000000000 := by simp [vrB] at h; omega
theorem mul_betw {m n xl xh yl yh : Int} (m1 : xl ≤ m) (m2 : m ≤ xh) (n1 : yl ≤ n) (n2 : n ≤ yh) :
    min (min (min (xl * yl) (xl * yh)) (xh * yl)) (xh * yh) ≤ m * n ∧ m * n ≤ max (max (max (xl * yl) (xl * yh)) (xh * yl)) (xh * yh) := by
  have one : ∀ (k : Int), min (k * yl) (k * yh) ≤ k * n ∧ k * n ≤ max (k * yl) (k * yh) := by
    intro k
    by_cases hk : 0 ≤ k
    · have := Int.mul_le_mul_of_nonneg_left n1 hk
      have := Int.mul_le_mul_of_nonneg_left n2 hk
      omega
    · have := Int.mul_le_mul_of_nonpos_left (a := k) (by omega) n1
      have := Int.mul_le_mul_of_nonpos_left (a := k) (by omega) n2
      omega
  have two : min (xl * n) (xh * n) ≤ m * n ∧ m * n ≤ max (xl * n) (xh * n) := by
    by_cases hn : 0 ≤ n
    · have := Int.mul_le_mul_of_nonneg_right m1 hn
      have := Int.mul_le_mul_of_nonneg_right m2 hn
      omega
    · have := Int.mul_le_mul_of_nonpos_right m1 (show n ≤ 0 by omega)
      have := Int.mul_le_mul_of_nonpos_right m2 (show n ≤ 0 by omega)
      omega
  have h1 := one xl
  have h2 := one xh
  omega
theorem mul_bnd {m n A B : Int} (m1 : -A ≤ m) (m2 : m ≤ A) (n1 : -B ≤ n) (n2 : n ≤ B) (hA : 0 ≤ A) (hB : 0 ≤ B) : -(A * B) ≤ m * n ∧ m * n ≤ A * B := by
  have h := mul_betw m1 m2 n1 n2
  rw [Int.neg_mul, Int.neg_mul, Int.mul_neg] at h
  have := Int.mul_nonneg hA hB
  omega

set_option maxHeartbeats 400000 in
theorem rRange_any (lo hi : Int) (w : World) :
    Calls Try.prog 28 #[.agg #[.int .i64 lo, .int .i64 hi]] w fun e w' => e = .returned (.bool (vrB lo hi)) ∧ Below w.heap.size w w' := by
  have c1 := Lib.hid (rIn_any lo (-1000000000000000) 1000000000000000)
  have c2 := Lib.hid (rIn_any hi lo 1000000000000000)
  have hv : Hid (vrB lo hi = ((decide (-1000000000000000 ≤ lo) && decide (lo ≤ 1000000000000000)) && (decide (lo ≤ hi) && decide (hi ≤ 1000000000000000)))) := Lib.hid (by rw [Bool.eq_iff_iff]; simp [vrB]; omega)
  generalize (decide (-1000000000000000 ≤ lo) && decide (lo ≤ 1000000000000000)) = p at *
  generalize (decide (lo ≤ hi) && decide (hi ≤ 1000000000000000)) = q at *
  cases p
  · go_enter Try.func28, Try.ntmps28
    go_wp2_with fail
    refine (c1.out _).mono ?_
    rintro e w1 ⟨rfl, rfl⟩
    go_wp2_with fail
    go_ret
    exact ⟨by rw [hv.out]; rfl, (Below.refl _ _).alloc (Nat.le_refl _) _⟩
  · go_enter Try.func28, Try.ntmps28
    go_wp2_with fail
    refine (c1.out _).mono ?_
    rintro e w1 ⟨rfl, rfl⟩
    go_wp2_with fail
    refine (c2.out _).mono ?_
    rintro e w1 ⟨rfl, rfl⟩
    go_wp2_with fail
    go_ret
    exact ⟨by rw [hv.out]; rfl, (Below.refl _ _).alloc (Nat.le_refl _) _⟩

set_option maxHeartbeats 400000 in
theorem rFits_any (lo hi : Int) (h : lo ≤ hi) (w : World) :
    Calls Try.prog 97 #[.int .i64 lo, .int .i64 hi] w fun e w' => e = .returned (.tuple #[.agg #[.int .i64 (fitL lo hi), .int .i64 (fitH lo hi)], .int .i64 (fitE lo hi)]) ∧ Below w.heap.size w w' := by
  have c1 := Lib.hid (rRange_any lo hi)
  by_cases hv : vrB lo hi = true
  · have hr := vrB_in hv
    obtain ⟨e1, e2, e3⟩ := fit_yes lo hi (by omega) (by omega)
    have E1 := Lib.hid e1
    have E2 := Lib.hid e2
    have E3 := Lib.hid e3
    rw [hv] at c1
    clear e1 e2 e3 hr hv h
    go_enter Try.func97, Try.ntmps97
    go_wp2_with fail
    refine (c1.out _).mono ?_
    rintro e w1 ⟨rfl, hb1⟩
    have s0 := cell_next hb1 (b := w.heap.size + 1) (o := 0) (by simp <;> omega) (v := some (.int .i64 lo)) (by simp [go_sem])
    have s1 := cell_next hb1 (b := w.heap.size + 1) (o := 1) (by simp <;> omega) (v := some (.int .i64 hi)) (by simp [go_sem])
    have r0 := cell_next hb1 (b := w.heap.size) (o := 0) (by simp <;> omega) (v := some (.int .i64 0)) (by simp [go_sem])
    have r1 := cell_next hb1 (b := w.heap.size) (o := 1) (by simp <;> omega) (v := some (.int .i64 0)) (by simp [go_sem])
    have f0 := frozen_next hb1 (b := w.heap.size) (o := 0) (by simp <;> omega) (v := false) (by simp [go_sem])
    have f1 := frozen_next hb1 (b := w.heap.size) (o := 1) (by simp <;> omega) (v := false) (by simp [go_sem])
    have hB := below2 hb1
    clear hb1
    go_wp2_with fail
    refine bodyPost_ret (v := .tuple #[.agg #[.int .i64 lo, .int .i64 hi], .int .i64 0]) (by simp [results, Try.results97, go_sem, r0, r1, f0, f1]) rfl ⟨by rw [E1.out, E2.out, E3.out], ?_⟩
    exact (hB.setCell (p := ⟨w.heap.size, 0, none⟩) (Nat.le_refl _) _).setCell (p := ⟨w.heap.size, 1, none⟩) (Nat.le_refl _) _
  · have hvf : vrB lo hi = false := by simpa using hv
    obtain ⟨e1, e2, e3⟩ := fit_no lo hi (by simp [vrB] at hvf; omega)
    have E1 := Lib.hid e1
    have E2 := Lib.hid e2
    have E3 := Lib.hid e3
    rw [hvf] at c1
    clear e1 e2 e3 hvf hv h
    go_enter Try.func97, Try.ntmps97
    go_wp2_with fail
    refine (c1.out _).mono ?_
    rintro e w1 ⟨rfl, hb1⟩
    have r0 := cell_next hb1 (b := w.heap.size) (o := 0) (by simp <;> omega) (v := some (.int .i64 0)) (by simp [go_sem])
    have r1 := cell_next hb1 (b := w.heap.size) (o := 1) (by simp <;> omega) (v := some (.int .i64 0)) (by simp [go_sem])
    have f0 := frozen_next hb1 (b := w.heap.size) (o := 0) (by simp <;> omega) (v := false) (by simp [go_sem])
    have f1 := frozen_next hb1 (b := w.heap.size) (o := 1) (by simp <;> omega) (v := false) (by simp [go_sem])
    have hB := below2 hb1
    clear hb1
    go_wp2_with fail
    refine bodyPost_ret (v := .tuple #[.agg #[.int .i64 0, .int .i64 0], .int .i64 10]) (by simp [results, Try.results97, go_sem, r0, r1, f0, f1]) rfl ⟨by rw [E1.out, E2.out, E3.out], ?_⟩
    exact (hB.setCell (p := ⟨w.heap.size, 0, none⟩) (Nat.le_refl _) _).setCell (p := ⟨w.heap.size, 1, none⟩) (Nat.le_refl _) _

set_option maxHeartbeats 400000 in
theorem rAbs_any (n : Int) (n1 : -4000000000000000000 ≤ n) (n2 : n ≤ 4000000000000000000) (w : World) :
    Calls Try.prog 137 #[.int .i64 n] w fun e w' => e = .returned (.int .i64 (n.natAbs : Int)) ∧ w = w' := by
  have hw : IntKind.i64.wrap (-n) = -n := IntWalk.i64_in _ (by omega)
  have H1 : ∀ tys ty w, (Builtin.max_ tys ty #[.int .i64 n, .int .i64 (-n)]).run Try.prog w = .ok (.int .i64 (n.natAbs : Int)) w := fun tys ty w => by rw [rrun_max2, show max n (-n) = (n.natAbs : Int) from by omega]
  go_enter Try.func137, Try.ntmps137
  go_wp2
  go_ret
  exact ⟨rfl, rfl⟩

/-- A product, or 4 * 10^15 with its sign where it is greater. -/
def prS (a b : Int) : Prop := b ≠ 0 ∧ 4000000000000000 / (b.natAbs : Int) < (a.natAbs : Int)
instance (a b : Int) : Decidable (prS a b) := inferInstanceAs (Decidable (_ ∧ _))
def prG (a b : Int) : Int := if decide (0 < a) == decide (0 < b) then 4000000000000000 else -4000000000000000
def prd (a b : Int) : Int := if prS a b then prG a b else a * b

theorem quo_bd (B : Int) (hB : 0 < B) : (4000000000000000 : Int).tdiv B = 4000000000000000 / B ∧ 0 ≤ 4000000000000000 / B ∧ 4000000000000000 / B ≤ 4000000000000000 := by
  refine ⟨Int.tdiv_eq_ediv_of_nonneg (by omega), Int.ediv_nonneg (by omega) (by omega), Int.ediv_le_self _ (by omega)⟩
theorem prS_no {a b : Int} (h : ¬ prS a b) : -4000000000000000 ≤ a * b ∧ a * b ≤ 4000000000000000 := by
  by_cases hb : b = 0
  · subst hb; simp
  · have h1 : (a.natAbs : Int) ≤ 4000000000000000 / (b.natAbs : Int) := by
      exact Int.not_lt.1 fun h2 => h ⟨hb, h2⟩
    have h2 : (a.natAbs : Int) * (b.natAbs : Int) ≤ 4000000000000000 := (Int.le_ediv_iff_mul_le (by omega)).1 h1
    rw [← Int.natCast_mul, ← Int.natAbs_mul] at h2
    omega
theorem prS_yes {a b : Int} (h : prS a b) : 4000000000000000 < ((a * b).natAbs : Int) := by
  obtain ⟨hb, h1⟩ := h
  have h2 := (Int.ediv_lt_iff_lt_mul (by omega : 0 < (b.natAbs : Int))).1 h1
  rw [Int.natAbs_mul, Int.natCast_mul]
  omega
theorem prG_sign {a b : Int} (h : a * b ≠ 0) : (0 < a * b → prG a b = 4000000000000000) ∧ (a * b < 0 → prG a b = -4000000000000000) := by
  have ha : a ≠ 0 := fun e => h (by simp [e])
  have hb : b ≠ 0 := fun e => h (by simp [e])
  unfold prG
  rcases Int.lt_or_gt_of_ne ha with h1 | h1 <;> rcases Int.lt_or_gt_of_ne hb with h2 | h2
  · have := Int.mul_pos_of_neg_of_neg h1 h2
    rw [decide_eq_false (by omega), decide_eq_false (by omega)]
    exact ⟨fun _ => rfl, fun _ => by omega⟩
  · have := Int.mul_neg_of_neg_of_pos h1 h2
    rw [decide_eq_false (by omega), decide_eq_true (by omega)]
    exact ⟨fun _ => by omega, fun _ => rfl⟩
  · have := Int.mul_neg_of_pos_of_neg h1 h2
    rw [decide_eq_true (by omega), decide_eq_false (by omega)]
    exact ⟨fun _ => by omega, fun _ => rfl⟩
  · have := Int.mul_pos h1 h2
    rw [decide_eq_true (by omega), decide_eq_true (by omega)]
    exact ⟨fun _ => rfl, fun _ => by omega⟩

set_option maxHeartbeats 1000000 in
theorem rProduct_any (a b : Int) (ha : -1000000000000000 ≤ a ∧ a ≤ 1000000000000000) (hb : -1000000000000000 ≤ b ∧ b ≤ 1000000000000000) (w : World) :
    Calls Try.prog 104 #[.int .i64 a, .int .i64 b] w fun e w' => e = .returned (.int .i64 (prd a b)) ∧ w = w' := by
  have c1 := Lib.hid (rAbs_any a (by omega) (by omega))
  have c2 := Lib.hid (rAbs_any b (by omega) (by omega))
  have no := fun h => prS_no (a := a) (b := b) h
  by_cases hb0 : b = 0
  · subst hb0
    have E : Hid (prd a 0 = 0) := Lib.hid (by rw [prd, if_neg (by simp [prS])]; simp)
    clear no ha hb
    go_enter Try.func104, Try.ntmps104
    go_wp2_with fail
    go_ret
    exact ⟨ret_int E.out.symm, rfl⟩
  · have hz : (b == 0) = false := by simpa using hb0
    have hz2 : (b != 0) = true := by simpa using hb0
    obtain ⟨t1, t2, t3⟩ := quo_bd (b.natAbs : Int) (by omega)
    have hS : prS a b ↔ 4000000000000000 / (b.natAbs : Int) < (a.natAbs : Int) := ⟨fun h => h.2, fun h => ⟨hb0, h⟩⟩
    have hBz : ((b.natAbs : Int) == 0) = false := by simp; omega
    have hBn : ¬ (b.natAbs : Int) = 0 := by omega
    have wq : IntKind.i64.wrap (4000000000000000 / (b.natAbs : Int)) = 4000000000000000 / (b.natAbs : Int) := IntWalk.i64_in _ (by omega)
    generalize 4000000000000000 / (b.natAbs : Int) = Q at *
    generalize (b.natAbs : Int) = B at *
    generalize (a.natAbs : Int) = A at *
    by_cases h : Q < A
    · have E : Hid (prd a b = if decide (0 < a) == decide (0 < b) then 4000000000000000 else -4000000000000000) := Lib.hid (by rw [prd, if_pos (hS.2 h)]; rfl)
      clear no hS
      have hQA : decide (Q < A) = true := by simpa using h
      clear h
      obtain ⟨pa, hpa⟩ : ∃ p, decide (0 < a) = p := ⟨_, rfl⟩
      obtain ⟨pb, hpb⟩ : ∃ p, decide (0 < b) = p := ⟨_, rfl⟩
      have E' := E.out
      rw [hpa, hpb] at E'
      have E'' := Lib.hid E'
      clear E E'
      cases pa <;> cases pb
      all_goals
        go_enter Try.func104, Try.ntmps104
        go_wp2_with fail
        refine (c1.out _).mono ?_
        rintro e w1 ⟨rfl, rfl⟩
        go_wp2_with fail
        refine (c2.out _).mono ?_
        rintro e w1 ⟨rfl, rfl⟩
        go_wp2_with fail
        go_ret
        exact ⟨by rw [E''.out]; rfl, rfl⟩
    · have hn := fun h' => h (hS.1 h')
      obtain ⟨n1, n2⟩ := no hn
      have E : Hid (prd a b = a * b) := Lib.hid (by rw [prd, if_neg hn])
      have wm : IntKind.i64.wrap (a * b) = a * b := IntWalk.i64_in _ (by omega)
      clear no hS hn
      go_enter Try.func104, Try.ntmps104
      go_wp2_with fail
      refine (c1.out _).mono ?_
      rintro e w1 ⟨rfl, rfl⟩
      go_wp2_with fail
      refine (c2.out _).mono ?_
      rintro e w1 ⟨rfl, rfl⟩
      go_wp2_with fail
      go_ret
      exact ⟨ret_int E.out.symm, rfl⟩

/-- What the reference's scaled number is, rounded down and up. -/
def sdL (x num den : Int) : Int := if prS (x / den) num then prG (x / den) num else x / den * num + x % den * num / den
def sdH (x num den : Int) : Int := if prS (x / den) num then prG (x / den) num else x / den * num + -(-(x % den * num) / den)

theorem small_quo {s den B : Int} (hd : 1 ≤ den) (h1 : -B ≤ s) (h2 : s ≤ B) (hB : 0 ≤ B) : -B ≤ s / den ∧ s / den ≤ B := by
  have a1 := Int.ediv_le_ediv (by omega : 0 < den) h2
  have a2 := Int.ediv_le_ediv (by omega : 0 < den) h1
  have a3 : B / den ≤ B := Int.ediv_le_self _ hB
  have a4 : -B ≤ -B / den := (Int.le_ediv_iff_mul_le (by omega)).2 (by
    have := Int.mul_le_mul_of_nonneg_left hd hB
    rw [Int.neg_mul]
    omega)
  omega
theorem part_bd {x num den : Int} (hn : -1000000000 ≤ num ∧ num ≤ 1000000000) (hd : 1 ≤ den ∧ den ≤ 1000000000) :
    0 ≤ x % den ∧ x % den < den ∧ -1000000000000000000 ≤ x % den * num ∧ x % den * num ≤ 1000000000000000000 := by
  have h1 := Int.emod_nonneg x (show den ≠ 0 by omega)
  have h2 := Int.emod_lt_of_pos x (show 0 < den by omega)
  have h3 := mul_bnd (m := x % den) (n := num) (A := 1000000000) (B := 1000000000) (by omega) (by omega) (by omega) (by omega) (by omega) (by omega)
  refine ⟨h1, h2, by omega, by omega⟩

set_option maxRecDepth 20000 in
set_option maxHeartbeats 1000000 in
theorem rScaled_any (x num den : Int) (hx : -1000000000000000 ≤ x ∧ x ≤ 1000000000000000) (hn : -1000000000 ≤ num ∧ num ≤ 1000000000) (hd : 1 ≤ den ∧ den ≤ 1000000000) (w : World) :
    Calls Try.prog 101 #[.int .i64 x, .int .i64 num, .int .i64 den] w fun e w' => e = .returned (.tuple #[.int .i64 (sdL x num den), .int .i64 (sdH x num den)]) ∧ w = w' := by
  have hq := small_quo (s := x) (den := den) (B := 1000000000000000) hd.1 (by omega) hx.2 (by omega)
  obtain ⟨r1, r2, s1, s2⟩ := part_bd (x := x) hn hd
  have c1 := Lib.hid (rFloor_any x den (by omega) (by omega) (by omega))
  have c2 := Lib.hid (rAbs_any (x / den) (by omega) (by omega))
  have c3 := Lib.hid (rAbs_any num (by omega) (by omega))
  have c4 := Lib.hid (rFloor_any (x % den * num) den (by omega) (by omega) (by omega))
  have c5 := Lib.hid (rCeil_any (x % den * num) den (by omega) (by omega) (by omega))
  have eL : sdL x num den = if prS (x / den) num then prG (x / den) num else x / den * num + x % den * num / den := rfl
  have eH : sdH x num den = if prS (x / den) num then prG (x / den) num else x / den * num + -(-(x % den * num) / den) := rfl
  have hm := Int.emod_add_mul_ediv x den
  have no := fun h => prS_no (a := x / den) (b := num) h
  have l1 := small_quo (s := x % den * num) (den := den) (B := 1000000000000000000) hd.1 (by omega) (by omega) (by omega)
  have l2 := small_quo (s := -(x % den * num)) (den := den) (B := 1000000000000000000) hd.1 (by omega) (by omega) (by omega)
  generalize hss : x % den * num = s at *
  generalize -s / den = c at *
  generalize s / den = f at *
  generalize x / den = q at *
  have hr : x - den * q = x % den := by omega
  generalize x % den = r at *
  have w0 : IntKind.i64.wrap (den * q) = den * q := IntWalk.i64_in _ (by omega)
  have w1 : IntKind.i64.wrap (x - den * q) = r := by rw [hr]; exact IntWalk.i64_in _ (by omega)
  have w2 : IntKind.i64.wrap (r * num) = s := by rw [hss]; exact IntWalk.i64_in _ (by omega)
  by_cases hb0 : num = 0
  · subst hb0
    have hn' : ¬ prS q 0 := by simp [prS]
    rw [if_neg hn'] at eL eH
    have hs0 : s = 0 := by rw [← hss]; simp
    have e1 := Lib.hid (show sdL x 0 den = f by rw [eL]; simp)
    have e2 := Lib.hid (show sdH x 0 den = -c by rw [eH]; simp)
    have wf : IntKind.i64.wrap f = f := IntWalk.i64_in _ (by omega)
    have wc : IntKind.i64.wrap (-c) = -c := IntWalk.i64_in _ (by omega)
    subst hs0
    clear eL eH no hss hm hr hn hx hd l1 l2 hn'
    generalize sdL x 0 den = L at *
    generalize sdH x 0 den = H at *
    go_enter Try.func101, Try.ntmps101
    go_wp2_with fail
    refine (c1.out _).mono ?_
    rintro e w1 ⟨rfl, rfl⟩
    go_wp2_with fail
    refine (c1.out _).mono ?_
    rintro e w1 ⟨rfl, rfl⟩
    go_wp2_with fail
    refine (c4.out _).mono ?_
    rintro e w1 ⟨rfl, rfl⟩
    go_wp2_with fail
    refine (c5.out _).mono ?_
    rintro e w1 ⟨rfl, rfl⟩
    go_wp2_with fail
    go_ret2
    exact ⟨by rw [e1.out, e2.out] <;> rfl, rfl⟩
  · have hz : (num == 0) = false := by simpa using hb0
    have hz2 : (num != 0) = true := by simpa using hb0
    obtain ⟨t1, t2, t3⟩ := quo_bd (num.natAbs : Int) (by omega)
    have hS : prS q num ↔ 4000000000000000 / (num.natAbs : Int) < (q.natAbs : Int) := ⟨fun h => h.2, fun h => ⟨hb0, h⟩⟩
    have hBz : ((num.natAbs : Int) == 0) = false := by simp; omega
    have hBn : ¬ (num.natAbs : Int) = 0 := by omega
    have wq : IntKind.i64.wrap (4000000000000000 / (num.natAbs : Int)) = 4000000000000000 / (num.natAbs : Int) := IntWalk.i64_in _ (by omega)
    generalize 4000000000000000 / (num.natAbs : Int) = Q at *
    generalize (num.natAbs : Int) = B at *
    generalize (q.natAbs : Int) = A at *
    by_cases h : Q < A
    · rw [if_pos (hS.2 h)] at eL eH
      have hQA : decide (Q < A) = true := by simpa using h
      have e0 : prG q num = if decide (0 < q) == decide (0 < num) then 4000000000000000 else -4000000000000000 := rfl
      obtain ⟨pa, hpa⟩ : ∃ p, decide (0 < q) = p := ⟨_, rfl⟩
      obtain ⟨pb, hpb⟩ : ∃ p, decide (0 < num) = p := ⟨_, rfl⟩
      rw [hpa, hpb] at e0
      rw [e0] at eL eH
      have e1 := Lib.hid eL
      have e2 := Lib.hid eH
      clear eL eH e0 no hss hm hr hn hx hd l1 l2 hS h w2 c4 c5
      generalize sdL x num den = L at *
      generalize sdH x num den = H at *
      cases pa <;> cases pb
      all_goals
        go_enter Try.func101, Try.ntmps101
        go_wp2_with fail
        refine (c1.out _).mono ?_
        rintro e w1 ⟨rfl, rfl⟩
        go_wp2_with fail
        refine (c1.out _).mono ?_
        rintro e w1 ⟨rfl, rfl⟩
        go_wp2_with fail
        refine (c2.out _).mono ?_
        rintro e w1 ⟨rfl, rfl⟩
        go_wp2_with fail
        refine (c3.out _).mono ?_
        rintro e w1 ⟨rfl, rfl⟩
        go_wp2_with fail
        go_ret2
        exact ⟨by rw [e1.out, e2.out] <;> rfl, rfl⟩
    · have hnS := fun h' => h (hS.1 h')
      obtain ⟨n1, n2⟩ := no hnS
      rw [if_neg hnS] at eL eH
      have hQA : decide (Q < A) = false := by simpa using h
      have wp : IntKind.i64.wrap (q * num) = q * num := IntWalk.i64_in _ (by omega)
      have wa : IntKind.i64.wrap (q * num + f) = q * num + f := IntWalk.i64_in _ (by omega)
      have wb : IntKind.i64.wrap (q * num + -c) = q * num + -c := IntWalk.i64_in _ (by omega)
      have e1 := Lib.hid eL
      have e2 := Lib.hid eH
      clear eL eH no hss hm hr hn hx hd l1 l2 hS h hnS
      generalize sdL x num den = L at *
      generalize sdH x num den = H at *
      generalize -c = c' at *
      go_enter Try.func101, Try.ntmps101
      go_wp2_with fail
      refine (c1.out _).mono ?_
      rintro e w1 ⟨rfl, rfl⟩
      go_wp2_with fail
      refine (c1.out _).mono ?_
      rintro e w1 ⟨rfl, rfl⟩
      go_wp2_with fail
      refine (c2.out _).mono ?_
      rintro e w1 ⟨rfl, rfl⟩
      go_wp2_with fail
      refine (c3.out _).mono ?_
      rintro e w1 ⟨rfl, rfl⟩
      go_wp2_with fail
      refine (c4.out _).mono ?_
      rintro e w1 ⟨rfl, rfl⟩
      go_wp2_with fail
      refine (c5.out _).mono ?_
      rintro e w1 ⟨rfl, rfl⟩
      go_wp2_with fail
      go_ret2
      exact ⟨by rw [e1.out, e2.out] <;> rfl, rfl⟩
end Go.Proofs.Ytiibbnbknmeplaa
