/- Plain arithmetic: how a number of two words is divided by one, digit by digit. -/
namespace Go.Proofs.Ytiibbnbknmeplaa
set_option linter.unusedVariables false
set_option linter.unusedSimpArgs false
theorem dv_lin1 {A B U rhat u1 : Nat} (hi : A + rhat = U) (h : rhat * 4294967296 + u1 < B) : U * 4294967296 + u1 < A * 4294967296 + B := by
  rw [← hi, Nat.add_mul, Nat.add_assoc]
  exact Nat.add_lt_add_left h _
theorem dv_lin2 {A B U rhat u1 : Nat} (hi : A + rhat = U) (h : B ≤ rhat * 4294967296 + u1) : A * 4294967296 + B ≤ U * 4294967296 + u1 := by omega
theorem dv_mul (q yn1 yn0 : Nat) : q * (yn1 * 4294967296 + yn0) = q * yn1 * 4294967296 + q * yn0 := by rw [Nat.mul_add, Nat.mul_assoc]
theorem dv_step (Y yn1 yn0 U u1 q1 rhat : Nat) (hY : Y = yn1 * 4294967296 + yn0) (hi : q1 * yn1 + rhat = U) (h : rhat * 4294967296 + u1 < q1 * yn0) : (U * 4294967296 + u1) / Y < q1 := by
  have hpos : 0 < Y := by
    subst hY
    rcases Nat.eq_zero_or_pos yn0 with h0 | h0
    · rw [h0, Nat.mul_zero] at h; omega
    · omega
  rw [Nat.div_lt_iff_lt_mul hpos, hY, dv_mul]
  exact dv_lin1 hi h
theorem dv_stop (Y yn1 yn0 U u1 q1 rhat : Nat) (hY : Y = yn1 * 4294967296 + yn0) (hy : 0 < yn1) (hi : q1 * yn1 + rhat = U) (h : q1 * yn0 ≤ rhat * 4294967296 + u1) : q1 ≤ (U * 4294967296 + u1) / Y := by
  have hpos : 0 < Y := by omega
  rw [Nat.le_div_iff_mul_le hpos, hY, dv_mul]
  exact dv_lin2 hi h
theorem dv_first (Y yn1 yn0 U u1 : Nat) (hY : Y = yn1 * 4294967296 + yn0) (hy : 0 < yn1) (hu : u1 < 4294967296) : (U * 4294967296 + u1) / Y ≤ U / yn1 := by
  subst hY
  have h1 : (U * 4294967296 + u1) / (yn1 * 4294967296 + yn0) ≤ (U * 4294967296 + u1) / (yn1 * 4294967296) := Nat.div_le_div_left (by omega) (by omega)
  have h2 : (U * 4294967296 + u1) / (yn1 * 4294967296) = U / yn1 := by
    rw [Nat.mul_comm yn1, ← Nat.div_div_eq_div_mul]
    congr 1; omega
  omega
theorem dv_lt (Y U u1 : Nat) (h : U < Y) (hu : u1 < 4294967296) : (U * 4294967296 + u1) / Y < 4294967296 := by
  rw [Nat.div_lt_iff_lt_mul (by omega)]
  omega
theorem dv_bound (Y yn1 yn0 U : Nat) (hY : Y = yn1 * 4294967296 + yn0) (hy : 2147483648 ≤ yn1) (h0 : yn0 < 4294967296) (h : U < Y) : U / yn1 ≤ 4294967297 := by
  have : U / yn1 < 4294967298 := by
    rw [Nat.div_lt_iff_lt_mul (by omega)]
    omega
  omega
/-- one digit and its rest -/
theorem dv_lin3 {N A R U u1 Y : Nat} (hN : U * 4294967296 + u1 = N) (hm : A + R = N) (hl : R < Y) (hY : Y < 18446744073709551616) :
    (((U * 4294967296 % 18446744073709551616 + u1) % 18446744073709551616) + 18446744073709551616 - A % 18446744073709551616) % 18446744073709551616 = R := by omega
theorem dv_rest (Y U u1 : Nat) (hY : Y < 18446744073709551616) (hU : U < Y) (hu : u1 < 4294967296) :
    (((U * 4294967296 % 18446744073709551616 + u1) % 18446744073709551616) + 18446744073709551616 - (U * 4294967296 + u1) / Y * Y % 18446744073709551616) % 18446744073709551616 = (U * 4294967296 + u1) % Y :=
  dv_lin3 rfl (by rw [Nat.mul_comm]; exact Nat.div_add_mod _ _) (Nat.mod_lt _ (by omega)) hY
/-- two digits are the quotient -/
theorem dv_lin4 {U u1 u0 r A B : Nat} (hm : A + r = U * 4294967296 + u1) (hB : B = A * 4294967296) : U * 18446744073709551616 + u1 * 4294967296 + u0 = (r * 4294967296 + u0) + B := by omega
theorem dv_two' (Y U u1 u0 q r : Nat) (hY : 0 < Y) (hm : Y * q + r = U * 4294967296 + u1) :
    q * 4294967296 + (r * 4294967296 + u0) / Y = (U * 18446744073709551616 + u1 * 4294967296 + u0) / Y ∧
    (r * 4294967296 + u0) % Y = (U * 18446744073709551616 + u1 * 4294967296 + u0) % Y := by
  rw [dv_lin4 (B := Y * (q * 4294967296)) hm (by rw [Nat.mul_assoc]), Nat.add_mul_div_left _ _ hY, Nat.add_mul_mod_self_left]
  exact ⟨Nat.add_comm _ _, rfl⟩
theorem dv_two (Y U u1 u0 : Nat) (hY : 0 < Y) :
    (U * 4294967296 + u1) / Y * 4294967296 + ((U * 4294967296 + u1) % Y * 4294967296 + u0) / Y = (U * 18446744073709551616 + u1 * 4294967296 + u0) / Y ∧
    ((U * 4294967296 + u1) % Y * 4294967296 + u0) % Y = (U * 18446744073709551616 + u1 * 4294967296 + u0) % Y :=
  dv_two' Y U u1 u0 _ _ hY (Nat.div_add_mod _ _)
/-- what is shifted divides alike -/
theorem dv_shift (u y s : Nat) : (u * 2 ^ s) / (y * 2 ^ s) = u / y ∧ (u * 2 ^ s) % (y * 2 ^ s) / 2 ^ s = u % y := by
  have hp : 0 < 2 ^ s := Nat.pos_of_ne_zero (by simp)
  refine ⟨Nat.mul_div_mul_right _ _ hp, ?_⟩
  rw [Nat.mul_mod_mul_right, Nat.mul_div_cancel _ hp]
end Go.Proofs.Ytiibbnbknmeplaa
