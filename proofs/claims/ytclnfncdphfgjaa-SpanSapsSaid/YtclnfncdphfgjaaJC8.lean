/- Contracts: V5, joined. -/
import Derived.Test.YtclnfncdphfgjaaJC6
import Derived.Test.YtclnfncdphfgjaaJC7
import Derived.Test.YtclnfncdphfgjaaJC5
namespace Go.Proofs.Ytclnfncdphfgjaa
open Go.RowKit Go.Lib Go.Shelf
set_option linter.unusedVariables false
set_option linter.unusedSimpArgs false
attribute [local go_sem ↓] Go.wp_at_zero Go.wp_at_succ


/-- the sugar in m grams of sap -/
def dq (a s m : Int) : Int := if m = 0 then 0 else s * m / (a + s)
theorem dq_bd {a s m : Int} (h : spB a s = true) (h0 : 0 ≤ m) (h1 : m ≤ a + s) : 0 ≤ dq a s m ∧ dq a s m ≤ m ∧ dq a s m ≤ s ∧ m - dq a s m ≤ a := by
  obtain ⟨a1, a2, s1, s2⟩ := spB_of h
  unfold dq
  by_cases hm : m = 0
  · subst hm; simp; omega
  · rw [if_neg hm]
    have hp : 0 < a + s := by omega
    have q0 : 0 ≤ s * m / (a + s) := Int.ediv_nonneg (Int.mul_nonneg s1 h0) (by omega)
    have q1 : s * m / (a + s) ≤ m := by
      have h2 : s * m ≤ (a + s) * m := Int.mul_le_mul_of_nonneg_right (by omega) h0
      have := Int.ediv_le_ediv hp h2
      rwa [Int.mul_ediv_cancel_left _ (by omega)] at this
    have q2 : s * m / (a + s) ≤ s := by
      have h2 : s * m ≤ s * (a + s) := Int.mul_le_mul_of_nonneg_left h1 s1
      have := Int.ediv_le_ediv hp h2
      rwa [Int.mul_ediv_cancel _ (by omega)] at this
    refine ⟨q0, q1, q2, ?_⟩
    have h3 : (m - a) * (a + s) ≤ s * m := by
      have h4 : 0 ≤ a * (a + s - m) := Int.mul_nonneg a1 (by omega)
      have h5 : s * m - (m - a) * (a + s) = a * (a + s - m) := by
        simp only [Int.sub_mul, Int.mul_sub, Int.mul_add, Int.add_mul, Int.mul_comm m]
        omega
      omega
    have := (Int.le_ediv_iff_mul_le hp).2 h3
    omega
theorem drawsAt_dq {a s m : Int} (h : spB a s = true) (h0 : 0 ≤ m) (h1 : m ≤ a + s) : DrawsAt a s m (dq a s m) := by
  have hb := dq_bd h h0 h1
  obtain ⟨a1, a2, s1, s2⟩ := spB_of h
  by_cases hm : m = 0
  · subst hm; simp only [dq, if_pos]; exact drawsAt_zero _ _
  · have hq : dq a s m = s * m / (a + s) := if_neg hm
    have hp : 0 < a + s := by omega
    rw [hq] at hb ⊢
    have hqq : s.natAbs * m.natAbs / (a + s).natAbs ≤ 1000000000000000000 := by
      have e : (s.natAbs * m.natAbs / (a + s).natAbs : Nat) = (s * m / (a + s)).toNat := by
        obtain ⟨S, hS⟩ := Int.eq_ofNat_of_zero_le s1
        obtain ⟨N, hN⟩ := Int.eq_ofNat_of_zero_le h0
        obtain ⟨D, hD⟩ := Int.eq_ofNat_of_zero_le (Int.le_of_lt hp)
        rw [hD, hS, hN, ← Int.natCast_mul, ← Int.natCast_ediv]
        simp only [Int.natAbs_natCast, Int.toNat_natCast]
      rw [e]
      omega
    exact drawsAt_pos _ _ _ _ h (by omega) h1 (fun w => divide_any _ _ _ ⟨by omega, by omega⟩ ⟨by omega, by omega⟩ ⟨by omega, by omega⟩ (by omega) w) (q_pos hp hqq).1 hb.1 (by omega)
theorem spB_draw {a s m : Int} (h : spB a s = true) (h0 : 0 ≤ m) (h1 : m ≤ a + s) : spB (a - (m - dq a s m)) (s - dq a s m) = true := by
  have hb := dq_bd h h0 h1
  obtain ⟨a1, a2, s1, s2⟩ := spB_of h
  simp [spB]
  omega

/-- the error of drawing, and what is drawn and left -/
def drE (a s m : Int) : Int := if spB a s = true then (if m < 0 ∨ a + s < m then 3 else 0) else 2
structure Dr where
  d : Int
  u : Int
  l : Int
  r : Int
def drV (a s m : Int) : Dr := if drE a s m = 0 then ⟨m - dq a s m, dq a s m, a - (m - dq a s m), s - dq a s m⟩ else ⟨0, 0, 0, 0⟩
def vDr (x : Dr) (e : Int) : Value := .tuple #[.agg #[.int .i64 x.d, .int .i64 x.u], .agg #[.int .i64 x.l, .int .i64 x.r], .int .i64 e]
theorem drE_bad {a s m : Int} (h : spB a s = false) : drE a s m = 2 ∧ drV a s m = ⟨0, 0, 0, 0⟩ := by simp [drV, drE, h]
theorem drE_out {a s m : Int} (h : spB a s = true) (hm : m < 0 ∨ a + s < m) : drE a s m = 3 ∧ drV a s m = ⟨0, 0, 0, 0⟩ := by simp [drV, drE, h, hm]
theorem drE_ok {a s m : Int} (h : spB a s = true) (h0 : 0 ≤ m) (h1 : m ≤ a + s) : drE a s m = 0 ∧ drV a s m = ⟨m - dq a s m, dq a s m, a - (m - dq a s m), s - dq a s m⟩ := by
  have : ¬ (m < 0 ∨ a + s < m) := by omega
  simp [drV, drE, h, this]

set_option maxHeartbeats 400000 in
theorem draw_bad (a s m : Int) (hv : spB a s = false) (w : World) :
    Calls Try.prog 19 #[.agg #[.int .i64 a, .int .i64 s], .int .i64 m] w fun e w' => e = .returned (.tuple #[.agg #[.int .i64 0, .int .i64 0], .agg #[.int .i64 0, .int .i64 0], .int .i64 2]) ∧ Below w.heap.size w w' := by
  have c0 := Lib.hid (sapValid_any a s)
  rw [hv] at c0
  clear hv
  go_enter Try.func19, Try.ntmps19
  go_wp2_with fail
  refine (c0.out _).mono ?_
  rintro e W1 ⟨rfl, hb⟩
  have X0 := cell_next hb (b := w.heap.size) (o := 0) (by simp <;> omega) (v := some (.int .i64 a)) (by simp [go_sem])
  have X1 := cell_next hb (b := w.heap.size) (o := 1) (by simp <;> omega) (v := some (.int .i64 s)) (by simp [go_sem])
  have nX : w.heap.size < W1.heap.size := by have := hb.size; simp at this; omega
  have D0 := cell_next hb (b := w.heap.size + 1) (o := 0) (by simp <;> omega) (v := some (.int .i64 0)) (by simp [go_sem])
  have fD0 := frozen_next hb (b := w.heap.size + 1) (o := 0) (by simp <;> omega) (v := false) (by simp [go_sem])
  have D1 := cell_next hb (b := w.heap.size + 1) (o := 1) (by simp <;> omega) (v := some (.int .i64 0)) (by simp [go_sem])
  have fD1 := frozen_next hb (b := w.heap.size + 1) (o := 1) (by simp <;> omega) (v := false) (by simp [go_sem])
  have nD : w.heap.size + 1 < W1.heap.size := by have := hb.size; simp at this; omega
  have L0 := cell_next hb (b := w.heap.size + 1 + 1) (o := 0) (by simp <;> omega) (v := some (.int .i64 0)) (by simp [go_sem])
  have fL0 := frozen_next hb (b := w.heap.size + 1 + 1) (o := 0) (by simp <;> omega) (v := false) (by simp [go_sem])
  have L1 := cell_next hb (b := w.heap.size + 1 + 1) (o := 1) (by simp <;> omega) (v := some (.int .i64 0)) (by simp [go_sem])
  have fL1 := frozen_next hb (b := w.heap.size + 1 + 1) (o := 1) (by simp <;> omega) (v := false) (by simp [go_sem])
  have nL : w.heap.size + 1 + 1 < W1.heap.size := by have := hb.size; simp at this; omega
  have B0 := cell_next hb (b := w.heap.size + 1 + 1 + 1) (o := 0) (by simp <;> omega) (v := some (.int .i64 a)) (by simp [go_sem])
  have B1 := cell_next hb (b := w.heap.size + 1 + 1 + 1) (o := 1) (by simp <;> omega) (v := some (.int .i64 s)) (by simp [go_sem])
  have nB : w.heap.size + 1 + 1 + 1 < W1.heap.size := by have := hb.size; simp at this; omega
  have hB := (below4 hb)
  clear hb
  go_wp2_with fail
  refine bodyPost_ret (v := .tuple #[.agg #[.int .i64 0, .int .i64 0], .agg #[.int .i64 0, .int .i64 0], .int .i64 2]) (by simp [results, Try.results19, go_sem, *]) rfl ⟨rfl, ?_⟩
  repeat (first | with_reducible exact hB | with_reducible refine Below.drew ?_ | (with_reducible refine Below.setCell ?_ ?hp _; case hp => simp <;> omega))

set_option maxHeartbeats 400000 in
theorem draw_low (a s m : Int) (hv : spB a s = true) (hm : m < 0) (w : World) :
    Calls Try.prog 19 #[.agg #[.int .i64 a, .int .i64 s], .int .i64 m] w fun e w' => e = .returned (.tuple #[.agg #[.int .i64 0, .int .i64 0], .agg #[.int .i64 0, .int .i64 0], .int .i64 3]) ∧ Below w.heap.size w w' := by
  have c0 := Lib.hid (sapValid_any a s)
  rw [hv] at c0
  clear hv
  go_enter Try.func19, Try.ntmps19
  go_wp2_with fail
  refine (c0.out _).mono ?_
  rintro e W1 ⟨rfl, hb⟩
  have X0 := cell_next hb (b := w.heap.size) (o := 0) (by simp <;> omega) (v := some (.int .i64 a)) (by simp [go_sem])
  have X1 := cell_next hb (b := w.heap.size) (o := 1) (by simp <;> omega) (v := some (.int .i64 s)) (by simp [go_sem])
  have nX : w.heap.size < W1.heap.size := by have := hb.size; simp at this; omega
  have D0 := cell_next hb (b := w.heap.size + 1) (o := 0) (by simp <;> omega) (v := some (.int .i64 0)) (by simp [go_sem])
  have fD0 := frozen_next hb (b := w.heap.size + 1) (o := 0) (by simp <;> omega) (v := false) (by simp [go_sem])
  have D1 := cell_next hb (b := w.heap.size + 1) (o := 1) (by simp <;> omega) (v := some (.int .i64 0)) (by simp [go_sem])
  have fD1 := frozen_next hb (b := w.heap.size + 1) (o := 1) (by simp <;> omega) (v := false) (by simp [go_sem])
  have nD : w.heap.size + 1 < W1.heap.size := by have := hb.size; simp at this; omega
  have L0 := cell_next hb (b := w.heap.size + 1 + 1) (o := 0) (by simp <;> omega) (v := some (.int .i64 0)) (by simp [go_sem])
  have fL0 := frozen_next hb (b := w.heap.size + 1 + 1) (o := 0) (by simp <;> omega) (v := false) (by simp [go_sem])
  have L1 := cell_next hb (b := w.heap.size + 1 + 1) (o := 1) (by simp <;> omega) (v := some (.int .i64 0)) (by simp [go_sem])
  have fL1 := frozen_next hb (b := w.heap.size + 1 + 1) (o := 1) (by simp <;> omega) (v := false) (by simp [go_sem])
  have nL : w.heap.size + 1 + 1 < W1.heap.size := by have := hb.size; simp at this; omega
  have B0 := cell_next hb (b := w.heap.size + 1 + 1 + 1) (o := 0) (by simp <;> omega) (v := some (.int .i64 a)) (by simp [go_sem])
  have B1 := cell_next hb (b := w.heap.size + 1 + 1 + 1) (o := 1) (by simp <;> omega) (v := some (.int .i64 s)) (by simp [go_sem])
  have nB : w.heap.size + 1 + 1 + 1 < W1.heap.size := by have := hb.size; simp at this; omega
  have hB := (below4 hb)
  clear hb
  have t0 : decide (m < 0) = true := by simp; omega
  go_wp2_with fail
  refine bodyPost_ret (v := .tuple #[.agg #[.int .i64 0, .int .i64 0], .agg #[.int .i64 0, .int .i64 0], .int .i64 3]) (by simp [results, Try.results19, go_sem, *]) rfl ⟨rfl, ?_⟩
  repeat (first | with_reducible exact hB | with_reducible refine Below.drew ?_ | (with_reducible refine Below.setCell ?_ ?hp _; case hp => simp <;> omega))

set_option maxHeartbeats 400000 in
theorem draw_high (a s m : Int) (hv : spB a s = true) (h0 : 0 ≤ m) (hm : a + s < m) (w : World) :
    Calls Try.prog 19 #[.agg #[.int .i64 a, .int .i64 s], .int .i64 m] w fun e w' => e = .returned (.tuple #[.agg #[.int .i64 0, .int .i64 0], .agg #[.int .i64 0, .int .i64 0], .int .i64 3]) ∧ Below w.heap.size w w' := by
  have c0 := Lib.hid (sapValid_any a s)
  have c1 := Lib.hid (sapMass_any a s hv)
  rw [hv] at c0
  clear hv
  go_enter Try.func19, Try.ntmps19
  go_wp2_with fail
  refine (c0.out _).mono ?_
  rintro e W1 ⟨rfl, hb⟩
  have X0 := cell_next hb (b := w.heap.size) (o := 0) (by simp <;> omega) (v := some (.int .i64 a)) (by simp [go_sem])
  have X1 := cell_next hb (b := w.heap.size) (o := 1) (by simp <;> omega) (v := some (.int .i64 s)) (by simp [go_sem])
  have nX : w.heap.size < W1.heap.size := by have := hb.size; simp at this; omega
  have D0 := cell_next hb (b := w.heap.size + 1) (o := 0) (by simp <;> omega) (v := some (.int .i64 0)) (by simp [go_sem])
  have fD0 := frozen_next hb (b := w.heap.size + 1) (o := 0) (by simp <;> omega) (v := false) (by simp [go_sem])
  have D1 := cell_next hb (b := w.heap.size + 1) (o := 1) (by simp <;> omega) (v := some (.int .i64 0)) (by simp [go_sem])
  have fD1 := frozen_next hb (b := w.heap.size + 1) (o := 1) (by simp <;> omega) (v := false) (by simp [go_sem])
  have nD : w.heap.size + 1 < W1.heap.size := by have := hb.size; simp at this; omega
  have L0 := cell_next hb (b := w.heap.size + 1 + 1) (o := 0) (by simp <;> omega) (v := some (.int .i64 0)) (by simp [go_sem])
  have fL0 := frozen_next hb (b := w.heap.size + 1 + 1) (o := 0) (by simp <;> omega) (v := false) (by simp [go_sem])
  have L1 := cell_next hb (b := w.heap.size + 1 + 1) (o := 1) (by simp <;> omega) (v := some (.int .i64 0)) (by simp [go_sem])
  have fL1 := frozen_next hb (b := w.heap.size + 1 + 1) (o := 1) (by simp <;> omega) (v := false) (by simp [go_sem])
  have nL : w.heap.size + 1 + 1 < W1.heap.size := by have := hb.size; simp at this; omega
  have B0 := cell_next hb (b := w.heap.size + 1 + 1 + 1) (o := 0) (by simp <;> omega) (v := some (.int .i64 a)) (by simp [go_sem])
  have B1 := cell_next hb (b := w.heap.size + 1 + 1 + 1) (o := 1) (by simp <;> omega) (v := some (.int .i64 s)) (by simp [go_sem])
  have nB : w.heap.size + 1 + 1 + 1 < W1.heap.size := by have := hb.size; simp at this; omega
  have hB := (below4 hb)
  clear hb
  have t0 : decide (m < 0) = false := by simp; omega
  have t1 : a + s < m := by omega
  go_wp2_with fail
  refine (c1.out _).mono ?_
  rintro e W2 ⟨rfl, hb⟩
  replace X0 := cell_next hb nX X0
  replace X1 := cell_next hb nX X1
  replace nX := Nat.lt_of_lt_of_le nX hb.size
  replace D0 := cell_next hb nD D0
  replace fD0 := frozen_next hb nD fD0
  replace D1 := cell_next hb nD D1
  replace fD1 := frozen_next hb nD fD1
  replace nD := Nat.lt_of_lt_of_le nD hb.size
  replace L0 := cell_next hb nL L0
  replace fL0 := frozen_next hb nL fL0
  replace L1 := cell_next hb nL L1
  replace fL1 := frozen_next hb nL fL1
  replace nL := Nat.lt_of_lt_of_le nL hb.size
  replace B0 := cell_next hb nB B0
  replace B1 := cell_next hb nB B1
  replace nB := Nat.lt_of_lt_of_le nB hb.size
  replace hB := hB.trans (hb.mono hB.size)
  clear hb
  go_wp2_with fail
  refine bodyPost_ret (v := .tuple #[.agg #[.int .i64 0, .int .i64 0], .agg #[.int .i64 0, .int .i64 0], .int .i64 3]) (by simp [results, Try.results19, go_sem, *]) rfl ⟨rfl, ?_⟩
  repeat (first | with_reducible exact hB | with_reducible refine Below.drew ?_ | (with_reducible refine Below.setCell ?_ ?hp _; case hp => simp <;> omega))

theorem draw_all (a s m : Int) (w : World) : Calls Try.prog 19 #[.agg #[.int .i64 a, .int .i64 s], .int .i64 m] w fun e w' => e = .returned (vDr (drV a s m) (drE a s m)) ∧ Below w.heap.size w w' := by
  cases hv : spB a s with
  | false => rw [(drE_bad hv).1, (drE_bad hv).2]; exact draw_bad a s m hv w
  | true =>
    by_cases h0 : m < 0
    · rw [(drE_out hv (.inl h0)).1, (drE_out hv (.inl h0)).2]; exact draw_low a s m hv h0 w
    · by_cases h1 : a + s < m
      · rw [(drE_out hv (.inr h1)).1, (drE_out hv (.inr h1)).2]; exact draw_high a s m hv (by omega) h1 w
      · have h2 : 0 ≤ m := by omega
        have h3 : m ≤ a + s := by omega
        rw [(drE_ok hv h2 h3).1, (drE_ok hv h2 h3).2]
        exact draw_ok a s m _ hv h2 h3 (drawsAt_dq hv h2 h3) w
end Go.Proofs.Ytclnfncdphfgjaa
