/- Contracts: a number of two words divided by one. -/
import Derived.Test.YtgklpbgdimkhaaaGreatKA1
import Derived.Test.YtgklpbgdimkhaaaGreatSh
namespace Go.Proofs.YtgklpbgdimkhaaaGreat
set_option linter.unusedVariables false
set_option linter.unusedSimpArgs false
theorem dv_lin1 {A B U rhat u1 : Nat} (hi : A + rhat = U) (h : rhat * 4294967296 + u1 < B) : U * 4294967296 + u1 < A * 4294967296 + B := by
  rw [← hi, Nat.add_mul, Nat.add_assoc]
  exact Nat.add_lt_add_left h _
theorem dv_lin2 {A B U rhat u1 : Nat} (hi : A + rhat = U) (h : B ≤ rhat * 4294967296 + u1) : A * 4294967296 + B ≤ U * 4294967296 + u1 := by omega
theorem dv_mul (q yn1 yn0 : Nat) : q * (yn1 * 4294967296 + yn0) = q * yn1 * 4294967296 + q * yn0 := by rw [Nat.mul_add, Nat.mul_assoc]
theorem dv_step (Y yn1 yn0 U u1 q1 rhat : Nat) (hY : Y = yn1 * 4294967296 + yn0) (hi : q1 * yn1 + rhat = U) (h : rhat * 4294967296 + u1 < q1 * yn0) : (U * 4294967296 + u1) / Y < q1 := by
  have hpos : 0 < Y := by
    subst hY
    rcases Nat.eq_zero_or_pos yn0 with h0 | h0
    · rw [h0, Nat.mul_zero] at h; omega
    · omega
  rw [Nat.div_lt_iff_lt_mul hpos, hY, dv_mul]
  exact dv_lin1 hi h
theorem dv_stop (Y yn1 yn0 U u1 q1 rhat : Nat) (hY : Y = yn1 * 4294967296 + yn0) (hy : 0 < yn1) (hi : q1 * yn1 + rhat = U) (h : q1 * yn0 ≤ rhat * 4294967296 + u1) : q1 ≤ (U * 4294967296 + u1) / Y := by
  have hpos : 0 < Y := by omega
  rw [Nat.le_div_iff_mul_le hpos, hY, dv_mul]
  exact dv_lin2 hi h
theorem dv_first (Y yn1 yn0 U u1 : Nat) (hY : Y = yn1 * 4294967296 + yn0) (hy : 0 < yn1) (hu : u1 < 4294967296) : (U * 4294967296 + u1) / Y ≤ U / yn1 := by
  subst hY
  have h1 : (U * 4294967296 + u1) / (yn1 * 4294967296 + yn0) ≤ (U * 4294967296 + u1) / (yn1 * 4294967296) := Nat.div_le_div_left (by omega) (by omega)
  have h2 : (U * 4294967296 + u1) / (yn1 * 4294967296) = U / yn1 := by
    rw [Nat.mul_comm yn1, ← Nat.div_div_eq_div_mul]
    congr 1; omega
  omega
theorem dv_lt (Y U u1 : Nat) (h : U < Y) (hu : u1 < 4294967296) : (U * 4294967296 + u1) / Y < 4294967296 := by
  rw [Nat.div_lt_iff_lt_mul (by omega)]
  omega
theorem dv_bound (Y yn1 yn0 U : Nat) (hY : Y = yn1 * 4294967296 + yn0) (hy : 2147483648 ≤ yn1) (h0 : yn0 < 4294967296) (h : U < Y) : U / yn1 ≤ 4294967297 := by
  have : U / yn1 < 4294967298 := by
    rw [Nat.div_lt_iff_lt_mul (by omega)]
    omega
  omega
/-- one digit and its rest -/
theorem dv_lin3 {N A R U u1 Y : Nat} (hN : U * 4294967296 + u1 = N) (hm : A + R = N) (hl : R < Y) (hY : Y < 18446744073709551616) :
    (((U * 4294967296 % 18446744073709551616 + u1) % 18446744073709551616) + 18446744073709551616 - A % 18446744073709551616) % 18446744073709551616 = R := by omega
theorem dv_rest (Y U u1 : Nat) (hY : Y < 18446744073709551616) (hU : U < Y) (hu : u1 < 4294967296) :
    (((U * 4294967296 % 18446744073709551616 + u1) % 18446744073709551616) + 18446744073709551616 - (U * 4294967296 + u1) / Y * Y % 18446744073709551616) % 18446744073709551616 = (U * 4294967296 + u1) % Y :=
  dv_lin3 rfl (by rw [Nat.mul_comm]; exact Nat.div_add_mod _ _) (Nat.mod_lt _ (by omega)) hY
/-- two digits are the quotient -/
theorem dv_lin4 {U u1 u0 r A B : Nat} (hm : A + r = U * 4294967296 + u1) (hB : B = A * 4294967296) : U * 18446744073709551616 + u1 * 4294967296 + u0 = (r * 4294967296 + u0) + B := by omega
theorem dv_two' (Y U u1 u0 q r : Nat) (hY : 0 < Y) (hm : Y * q + r = U * 4294967296 + u1) :
    q * 4294967296 + (r * 4294967296 + u0) / Y = (U * 18446744073709551616 + u1 * 4294967296 + u0) / Y ∧
    (r * 4294967296 + u0) % Y = (U * 18446744073709551616 + u1 * 4294967296 + u0) % Y := by
  rw [dv_lin4 (B := Y * (q * 4294967296)) hm (by rw [Nat.mul_assoc]), Nat.add_mul_div_left _ _ hY, Nat.add_mul_mod_self_left]
  exact ⟨Nat.add_comm _ _, rfl⟩
theorem dv_two (Y U u1 u0 : Nat) (hY : 0 < Y) :
    (U * 4294967296 + u1) / Y * 4294967296 + ((U * 4294967296 + u1) % Y * 4294967296 + u0) / Y = (U * 18446744073709551616 + u1 * 4294967296 + u0) / Y ∧
    ((U * 4294967296 + u1) % Y * 4294967296 + u0) % Y = (U * 18446744073709551616 + u1 * 4294967296 + u0) % Y :=
  dv_two' Y U u1 u0 _ _ hY (Nat.div_add_mod _ _)
/-- what is shifted divides alike -/
theorem dv_shift (u y s : Nat) : (u * 2 ^ s) / (y * 2 ^ s) = u / y ∧ (u * 2 ^ s) % (y * 2 ^ s) / 2 ^ s = u % y := by
  have hp : 0 < 2 ^ s := Nat.pos_of_ne_zero (by simp)
  refine ⟨Nat.mul_div_mul_right _ _ hp, ?_⟩
  rw [Nat.mul_mod_mul_right, Nat.mul_div_cancel _ hp]

open Go.RowKit Go.Lib

/-- the numbers of one division, each with what the text reckons it from -/
structure Dv (h x y s Y yn1 yn0 H xh U X u1 u0 q r A1 A2 A3 R q' r' C1 C2 C3 R0 Q Q0 : Nat) : Prop where
  y1 : y < 18446744073709551616
  s63 : s ≤ 63
  fY : IntKind.u64.wrap ((y : Int) * 2 ^ s) = (Y : Int)
  fn1 : (Y : Int) / 4294967296 = (yn1 : Int)
  fn0 : bits BinOp.and IntKind.u64 (Y : Int) 4294967295 = (yn0 : Int)
  fH : IntKind.u64.wrap ((h : Int) * 2 ^ s) = (H : Int)
  fxh : (x : Int) / 2 ^ (64 - s) = (xh : Int)
  fU : bits BinOp.or IntKind.u64 (H : Int) (xh : Int) = (U : Int)
  fX : IntKind.u64.wrap ((x : Int) * 2 ^ s) = (X : Int)
  fu1 : (X : Int) / 4294967296 = (u1 : Int)
  fu0 : bits BinOp.and IntKind.u64 (X : Int) 4294967295 = (u0 : Int)
  fq : (U : Int) / (yn1 : Int) = (q : Int)
  fr : IntKind.u64.wrap ((U : Int) - IntKind.u64.wrap ((q : Int) * (yn1 : Int))) = (r : Int)
  bY : Y < 18446744073709551616
  bn1 : 2147483648 ≤ yn1
  bn1' : yn1 < 4294967296
  bn0 : yn0 < 4294967296
  bU : U < 18446744073709551616
  bX : X < 18446744073709551616
  bu1 : u1 < 4294967296
  bu0 : u0 < 4294967296
  bq : q ≤ 4294967297
  br : r < 4294967296
  hqr : q * yn1 + r = U
  hQ : Q = (U * 4294967296 + u1) / Y
  hY : Y = yn1 * 4294967296 + yn0
  hQq : Q ≤ q
  bQ : Q < 4294967296
  fA1 : IntKind.u64.wrap ((U : Int) * 4294967296) = (A1 : Int)
  fA2 : IntKind.u64.wrap ((A1 : Int) + (u1 : Int)) = (A2 : Int)
  fA3 : IntKind.u64.wrap ((Q : Int) * (Y : Int)) = (A3 : Int)
  fR : IntKind.u64.wrap ((A2 : Int) - (A3 : Int)) = (R : Int)
  bR : R < Y
  fq' : (R : Int) / (yn1 : Int) = (q' : Int)
  fr' : IntKind.u64.wrap ((R : Int) - IntKind.u64.wrap ((q' : Int) * (yn1 : Int))) = (r' : Int)
  bq' : q' ≤ 4294967297
  br' : r' < 4294967296
  hqr' : q' * yn1 + r' = R
  hQ0 : Q0 = (R * 4294967296 + u0) / Y
  hQq' : Q0 ≤ q'
  bQ0 : Q0 < 4294967296
  fC1 : IntKind.u64.wrap ((R : Int) * 4294967296) = (C1 : Int)
  fC2 : IntKind.u64.wrap ((C1 : Int) + (u0 : Int)) = (C2 : Int)
  fC3 : IntKind.u64.wrap ((Q0 : Int) * (Y : Int)) = (C3 : Int)
  fR0 : IntKind.u64.wrap ((C2 : Int) - (C3 : Int)) = (R0 : Int)
  bR0 : R0 < 18446744073709551616

/-- one step of a digit: too great, or right -/
theorem digit_step {Y yn1 yn0 U u1 a b Q : Nat} (hY : Y = yn1 * 4294967296 + yn0) (hy : 0 < yn1) (hi : a * yn1 + b = U) (hQ : Q = (U * 4294967296 + u1) / Y) (h : 4294967296 * b + u1 < a * yn0) : Q < a := by
  rw [hQ]
  exact dv_step Y yn1 yn0 U u1 a b hY hi (by omega)
theorem digit_stop {Y yn1 yn0 U u1 a b Q : Nat} (hY : Y = yn1 * 4294967296 + yn0) (hy : 0 < yn1) (hi : a * yn1 + b = U) (hQ : Q = (U * 4294967296 + u1) / Y) (hq : Q ≤ a) (h : a * yn0 ≤ 4294967296 * b + u1) : a = Q := by
  have := dv_stop Y yn1 yn0 U u1 a b hY hy hi (by omega)
  rw [← hQ] at this
  omega

theorem digit_less {a b yn1 U : Nat} (ha : 0 < a) (h : a * yn1 + b = U) : (a - 1) * yn1 + (b + yn1) = U := by
  obtain ⟨c, rfl⟩ : ∃ c, a = c + 1 := ⟨a - 1, by omega⟩
  rw [Nat.add_mul, Nat.one_mul] at h
  rw [Nat.add_sub_cancel]
  omega

set_option maxRecDepth 20000 in
set_option maxHeartbeats 2000000 in
theorem div64_core {h x y s Y yn1 yn0 H xh U X u1 u0 q r A1 A2 A3 R q' r' C1 C2 C3 R0 Q Q0 : Nat} (hs : Hid ((64 : Int) - (Lib.bitLen y : Int) = (s : Int))) (D : Dv h x y s Y yn1 yn0 H xh U X u1 u0 q r A1 A2 A3 R q' r' C1 C2 C3 R0 Q Q0) (h0 : 0 < h) (hy : h < y) (hx : x < 18446744073709551616) (w : World) :
    Calls Tryz.prog 151 #[.int .u64 h, .int .u64 x, .int .u64 y] w fun e w' => e = .returned (.tuple #[.int .u64 ((Q * 4294967296 + Q0 : Nat) : Int), .int .u64 ((R0 / 2 ^ s : Nat) : Int)]) ∧ w = w' := by
  obtain ⟨y1, s63, fY, fn1, fn0, fH, fxh, fU, fX, fu1, fu0, fq, fr, bY, bn1, bn1', bn0, bU, bX, bu1, bu0, bq, br, hqr, hQ, hY, hQq, bQ, fA1, fA2, fA3, fR, bR, fq', fr', bq', br', hqr', hQ0, hQq', bQ0, fC1, fC2, fC3, fR0, bR0⟩ := D
  have HQ := Lib.hid hQ
  have HQ0 := Lib.hid hQ0
  have HY := Lib.hid hY
  have HI := Lib.hid hqr
  have HI' := Lib.hid hqr'
  clear hQ hQ0 hY hqr hqr'
  have e1 : ((y : Int) == 0) = false := by simp; omega
  have e2 : decide ((y : Int) ≤ (h : Int)) = false := by simp; omega
  have e3 : ((h : Int) == 0) = false := by simp; omega
  have e4 : ((yn1 : Int) == 0) = false := by simp; omega
  have e5 : (0 : Int) ≤ (U : Int) := by omega
  have e6 : (0 : Int) < (yn1 : Int) := by omega
  have e7 : (0 : Int) ≤ (R : Int) := by omega
  go_enter Tryz.func151, Tryz.ntmps151
  go_wp2_with fail
  refine (Tryz.bits_LeadingZeros64 y _ (by omega) (by omega)).mono ?_
  rintro e w1 ⟨rfl, rfl⟩
  rw [Int.toNat_natCast, hs.out]
  go_wp2_with fail
  --LOOPS
  go_loop [15, 16] (fun c d => ∃ a b : Nat, c = .int .u64 a ∧ d = .int .u64 b ∧ Hid (a * yn1 + b = U) ∧ Q ≤ a ∧ a ≤ 4294967297 ∧ b < 4294967296) (fun c _ => (RowKit.intOf c).toNat)
  case atStart => exact ⟨q, r, rfl, rfl, HI, hQq, by omega, by omega⟩
  case round =>
    obtain ⟨a1, b1, rfl, rfl, hI1, hq1, ha1, hb1⟩ := hrel
    have step1 := Lib.hid (fun hh => digit_step (a := a1) (b := b1) HY.out (by omega) hI1.out HQ.out hh)
    have stop1 := Lib.hid (fun hh => digit_stop (a := a1) (b := b1) HY.out (by omega) hI1.out HQ.out hq1 hh)
    by_cases hbig1 : 4294967296 ≤ a1
    · have hbg1 : (4294967296 : Int) ≤ (a1 : Int) := by omega
      have hlt1 : Q < a1 := by omega
      have hm1 : IntKind.u64.wrap ((a1 : Int) - 1) = (a1 : Int) - 1 := by rw [IntKind.wrap_u64]; omega
      have hn1 : IntKind.u64.wrap ((b1 : Int) + (yn1 : Int)) = (b1 : Int) + (yn1 : Int) := by rw [IntKind.wrap_u64]; omega
      have hI1' : Hid ((a1 - 1) * yn1 + (b1 + yn1) = U) := Lib.hid (digit_less (by omega) hI1.out)
      by_cases hov1 : (4294967296 : Int) ≤ (b1 : Int) + (yn1 : Int)
      · have hend1 : a1 - 1 = Q := digit_stop (b := b1 + yn1) HY.out (by omega) hI1'.out HQ.out (by omega) (by
          have h1 := Nat.mul_le_mul (show a1 - 1 ≤ 4294967296 by omega) (show yn0 ≤ 4294967295 by omega)
          omega)
        have hen1 : (a1 : Int) - 1 = (Q : Int) := by omega
        clear hI1' hend1 step1 stop1 hm1
        have hm1 : IntKind.u64.wrap ((a1 : Int) - 1) = (Q : Int) := by rw [IntKind.wrap_u64]; omega
        go_wp2_with fail
        go_loop [18, 16] (fun c d => ∃ a b : Nat, c = .int .u64 a ∧ d = .int .u64 b ∧ Hid (a * yn1 + b = R) ∧ Q0 ≤ a ∧ a ≤ 4294967297 ∧ b < 4294967296) (fun c _ => (RowKit.intOf c).toNat)
        case atStart => exact ⟨q', r', rfl, rfl, HI', hQq', by omega, by omega⟩
        case round =>
          obtain ⟨a2, b2, rfl, rfl, hI2, hq2, ha2, hb2⟩ := hrel
          have step2 := Lib.hid (fun hh => digit_step (a := a2) (b := b2) HY.out (by omega) hI2.out HQ0.out hh)
          have stop2 := Lib.hid (fun hh => digit_stop (a := a2) (b := b2) HY.out (by omega) hI2.out HQ0.out hq2 hh)
          by_cases hbig2 : 4294967296 ≤ a2
          · have hbg2 : (4294967296 : Int) ≤ (a2 : Int) := by omega
            have hlt2 : Q0 < a2 := by omega
            have hm2 : IntKind.u64.wrap ((a2 : Int) - 1) = (a2 : Int) - 1 := by rw [IntKind.wrap_u64]; omega
            have hn2 : IntKind.u64.wrap ((b2 : Int) + (yn1 : Int)) = (b2 : Int) + (yn1 : Int) := by rw [IntKind.wrap_u64]; omega
            have hI2' : Hid ((a2 - 1) * yn1 + (b2 + yn1) = R) := Lib.hid (digit_less (by omega) hI2.out)
            by_cases hov2 : (4294967296 : Int) ≤ (b2 : Int) + (yn1 : Int)
            · have hend2 : a2 - 1 = Q0 := digit_stop (b := b2 + yn1) HY.out (by omega) hI2'.out HQ0.out (by omega) (by
                have h1 := Nat.mul_le_mul (show a2 - 1 ≤ 4294967296 by omega) (show yn0 ≤ 4294967295 by omega)
                omega)
              have hen2 : (a2 : Int) - 1 = (Q0 : Int) := by omega
              clear hI2' hend2 step2 stop2 hm2
              have hm2 : IntKind.u64.wrap ((a2 : Int) - 1) = (Q0 : Int) := by rw [IntKind.wrap_u64]; omega
              go_wp2_with fail
              go_ret2
              exact ⟨ret_ints2 (by first | rfl | omega | (simp; done) | (push_cast; omega)) (by first | rfl | (simp; done)), rfl⟩
            · clear step2 stop2
              go_wp2_with fail
              go_round
              case rel => exact ⟨a2 - 1, b2 + yn1, by go_num, by go_num, hI2', by omega, by omega, by omega⟩
              case measure => simp [RowKit.intOf]; omega
          · have hbg2 : ¬ (4294967296 : Int) ≤ (a2 : Int) := by omega
            have hpb2 : a2 * yn0 < 18446744073709551616 := by have := Nat.mul_lt_mul'' (show a2 < 4294967296 by omega) bn0; omega
            have hp2 : IntKind.u64.wrap ((a2 : Int) * (yn0 : Int)) = ((a2 * yn0 : Nat) : Int) := by rw [← Int.natCast_mul, IntKind.wrap_u64]; omega
            obtain ⟨P2, hP2⟩ : ∃ P, a2 * yn0 = P := ⟨_, rfl⟩
            rw [hP2] at hp2 step2 stop2 hpb2
            have hf2 : IntKind.u64.wrap (4294967296 * (b2 : Int)) = 4294967296 * (b2 : Int) := by rw [IntKind.wrap_u64]; omega
            have hg2 : IntKind.u64.wrap (4294967296 * (b2 : Int) + (u0 : Int)) = 4294967296 * (b2 : Int) + (u0 : Int) := by rw [IntKind.wrap_u64]; omega
            clear hP2
            by_cases hgt2 : 4294967296 * b2 + u0 < P2
            · have hgi2 : 4294967296 * (b2 : Int) + (u0 : Int) < (P2 : Int) := by omega
              have hlt2 : Q0 < a2 := by exact step2.out hgt2
              have hm2 : IntKind.u64.wrap ((a2 : Int) - 1) = (a2 : Int) - 1 := by rw [IntKind.wrap_u64]; omega
              have hn2 : IntKind.u64.wrap ((b2 : Int) + (yn1 : Int)) = (b2 : Int) + (yn1 : Int) := by rw [IntKind.wrap_u64]; omega
              have hI2' : Hid ((a2 - 1) * yn1 + (b2 + yn1) = R) := Lib.hid (digit_less (by omega) hI2.out)
              by_cases hov2 : (4294967296 : Int) ≤ (b2 : Int) + (yn1 : Int)
              · have hend2 : a2 - 1 = Q0 := digit_stop (b := b2 + yn1) HY.out (by omega) hI2'.out HQ0.out (by omega) (by
                  have h1 := Nat.mul_le_mul (show a2 - 1 ≤ 4294967296 by omega) (show yn0 ≤ 4294967295 by omega)
                  omega)
                have hen2 : (a2 : Int) - 1 = (Q0 : Int) := by omega
                clear hI2' hend2 step2 stop2 hm2
                have hm2 : IntKind.u64.wrap ((a2 : Int) - 1) = (Q0 : Int) := by rw [IntKind.wrap_u64]; omega
                go_wp2_with fail
                go_ret2
                exact ⟨ret_ints2 (by first | rfl | omega | (simp; done) | (push_cast; omega)) (by first | rfl | (simp; done)), rfl⟩
              · clear step2 stop2
                go_wp2_with fail
                go_round
                case rel => exact ⟨a2 - 1, b2 + yn1, by go_num, by go_num, hI2', by omega, by omega, by omega⟩
                case measure => simp [RowKit.intOf]; omega
            · have hgi2 : ¬ 4294967296 * (b2 : Int) + (u0 : Int) < (P2 : Int) := by omega
              obtain rfl : a2 = Q0 := stop2.out (by omega)
              clear step2 stop2
              go_wp2_with fail
              go_ret2
              exact ⟨ret_ints2 (by first | rfl | omega | (simp; done) | (push_cast; omega)) (by first | rfl | (simp; done)), rfl⟩
      · clear step1 stop1
        go_wp2_with fail
        go_round
        case rel => exact ⟨a1 - 1, b1 + yn1, by go_num, by go_num, hI1', by omega, by omega, by omega⟩
        case measure => simp [RowKit.intOf]; omega
    · have hbg1 : ¬ (4294967296 : Int) ≤ (a1 : Int) := by omega
      have hpb1 : a1 * yn0 < 18446744073709551616 := by have := Nat.mul_lt_mul'' (show a1 < 4294967296 by omega) bn0; omega
      have hp1 : IntKind.u64.wrap ((a1 : Int) * (yn0 : Int)) = ((a1 * yn0 : Nat) : Int) := by rw [← Int.natCast_mul, IntKind.wrap_u64]; omega
      obtain ⟨P1, hP1⟩ : ∃ P, a1 * yn0 = P := ⟨_, rfl⟩
      rw [hP1] at hp1 step1 stop1 hpb1
      have hf1 : IntKind.u64.wrap (4294967296 * (b1 : Int)) = 4294967296 * (b1 : Int) := by rw [IntKind.wrap_u64]; omega
      have hg1 : IntKind.u64.wrap (4294967296 * (b1 : Int) + (u1 : Int)) = 4294967296 * (b1 : Int) + (u1 : Int) := by rw [IntKind.wrap_u64]; omega
      clear hP1
      by_cases hgt1 : 4294967296 * b1 + u1 < P1
      · have hgi1 : 4294967296 * (b1 : Int) + (u1 : Int) < (P1 : Int) := by omega
        have hlt1 : Q < a1 := by exact step1.out hgt1
        have hm1 : IntKind.u64.wrap ((a1 : Int) - 1) = (a1 : Int) - 1 := by rw [IntKind.wrap_u64]; omega
        have hn1 : IntKind.u64.wrap ((b1 : Int) + (yn1 : Int)) = (b1 : Int) + (yn1 : Int) := by rw [IntKind.wrap_u64]; omega
        have hI1' : Hid ((a1 - 1) * yn1 + (b1 + yn1) = U) := Lib.hid (digit_less (by omega) hI1.out)
        by_cases hov1 : (4294967296 : Int) ≤ (b1 : Int) + (yn1 : Int)
        · have hend1 : a1 - 1 = Q := digit_stop (b := b1 + yn1) HY.out (by omega) hI1'.out HQ.out (by omega) (by
            have h1 := Nat.mul_le_mul (show a1 - 1 ≤ 4294967296 by omega) (show yn0 ≤ 4294967295 by omega)
            omega)
          have hen1 : (a1 : Int) - 1 = (Q : Int) := by omega
          clear hI1' hend1 step1 stop1 hm1
          have hm1 : IntKind.u64.wrap ((a1 : Int) - 1) = (Q : Int) := by rw [IntKind.wrap_u64]; omega
          go_wp2_with fail
          go_loop [18, 16] (fun c d => ∃ a b : Nat, c = .int .u64 a ∧ d = .int .u64 b ∧ Hid (a * yn1 + b = R) ∧ Q0 ≤ a ∧ a ≤ 4294967297 ∧ b < 4294967296) (fun c _ => (RowKit.intOf c).toNat)
          case atStart => exact ⟨q', r', rfl, rfl, HI', hQq', by omega, by omega⟩
          case round =>
            obtain ⟨a2, b2, rfl, rfl, hI2, hq2, ha2, hb2⟩ := hrel
            have step2 := Lib.hid (fun hh => digit_step (a := a2) (b := b2) HY.out (by omega) hI2.out HQ0.out hh)
            have stop2 := Lib.hid (fun hh => digit_stop (a := a2) (b := b2) HY.out (by omega) hI2.out HQ0.out hq2 hh)
            by_cases hbig2 : 4294967296 ≤ a2
            · have hbg2 : (4294967296 : Int) ≤ (a2 : Int) := by omega
              have hlt2 : Q0 < a2 := by omega
              have hm2 : IntKind.u64.wrap ((a2 : Int) - 1) = (a2 : Int) - 1 := by rw [IntKind.wrap_u64]; omega
              have hn2 : IntKind.u64.wrap ((b2 : Int) + (yn1 : Int)) = (b2 : Int) + (yn1 : Int) := by rw [IntKind.wrap_u64]; omega
              have hI2' : Hid ((a2 - 1) * yn1 + (b2 + yn1) = R) := Lib.hid (digit_less (by omega) hI2.out)
              by_cases hov2 : (4294967296 : Int) ≤ (b2 : Int) + (yn1 : Int)
              · have hend2 : a2 - 1 = Q0 := digit_stop (b := b2 + yn1) HY.out (by omega) hI2'.out HQ0.out (by omega) (by
                  have h1 := Nat.mul_le_mul (show a2 - 1 ≤ 4294967296 by omega) (show yn0 ≤ 4294967295 by omega)
                  omega)
                have hen2 : (a2 : Int) - 1 = (Q0 : Int) := by omega
                clear hI2' hend2 step2 stop2 hm2
                have hm2 : IntKind.u64.wrap ((a2 : Int) - 1) = (Q0 : Int) := by rw [IntKind.wrap_u64]; omega
                go_wp2_with fail
                go_ret2
                exact ⟨ret_ints2 (by first | rfl | omega | (simp; done) | (push_cast; omega)) (by first | rfl | (simp; done)), rfl⟩
              · clear step2 stop2
                go_wp2_with fail
                go_round
                case rel => exact ⟨a2 - 1, b2 + yn1, by go_num, by go_num, hI2', by omega, by omega, by omega⟩
                case measure => simp [RowKit.intOf]; omega
            · have hbg2 : ¬ (4294967296 : Int) ≤ (a2 : Int) := by omega
              have hpb2 : a2 * yn0 < 18446744073709551616 := by have := Nat.mul_lt_mul'' (show a2 < 4294967296 by omega) bn0; omega
              have hp2 : IntKind.u64.wrap ((a2 : Int) * (yn0 : Int)) = ((a2 * yn0 : Nat) : Int) := by rw [← Int.natCast_mul, IntKind.wrap_u64]; omega
              obtain ⟨P2, hP2⟩ : ∃ P, a2 * yn0 = P := ⟨_, rfl⟩
              rw [hP2] at hp2 step2 stop2 hpb2
              have hf2 : IntKind.u64.wrap (4294967296 * (b2 : Int)) = 4294967296 * (b2 : Int) := by rw [IntKind.wrap_u64]; omega
              have hg2 : IntKind.u64.wrap (4294967296 * (b2 : Int) + (u0 : Int)) = 4294967296 * (b2 : Int) + (u0 : Int) := by rw [IntKind.wrap_u64]; omega
              clear hP2
              by_cases hgt2 : 4294967296 * b2 + u0 < P2
              · have hgi2 : 4294967296 * (b2 : Int) + (u0 : Int) < (P2 : Int) := by omega
                have hlt2 : Q0 < a2 := by exact step2.out hgt2
                have hm2 : IntKind.u64.wrap ((a2 : Int) - 1) = (a2 : Int) - 1 := by rw [IntKind.wrap_u64]; omega
                have hn2 : IntKind.u64.wrap ((b2 : Int) + (yn1 : Int)) = (b2 : Int) + (yn1 : Int) := by rw [IntKind.wrap_u64]; omega
                have hI2' : Hid ((a2 - 1) * yn1 + (b2 + yn1) = R) := Lib.hid (digit_less (by omega) hI2.out)
                by_cases hov2 : (4294967296 : Int) ≤ (b2 : Int) + (yn1 : Int)
                · have hend2 : a2 - 1 = Q0 := digit_stop (b := b2 + yn1) HY.out (by omega) hI2'.out HQ0.out (by omega) (by
                    have h1 := Nat.mul_le_mul (show a2 - 1 ≤ 4294967296 by omega) (show yn0 ≤ 4294967295 by omega)
                    omega)
                  have hen2 : (a2 : Int) - 1 = (Q0 : Int) := by omega
                  clear hI2' hend2 step2 stop2 hm2
                  have hm2 : IntKind.u64.wrap ((a2 : Int) - 1) = (Q0 : Int) := by rw [IntKind.wrap_u64]; omega
                  go_wp2_with fail
                  go_ret2
                  exact ⟨ret_ints2 (by first | rfl | omega | (simp; done) | (push_cast; omega)) (by first | rfl | (simp; done)), rfl⟩
                · clear step2 stop2
                  go_wp2_with fail
                  go_round
                  case rel => exact ⟨a2 - 1, b2 + yn1, by go_num, by go_num, hI2', by omega, by omega, by omega⟩
                  case measure => simp [RowKit.intOf]; omega
              · have hgi2 : ¬ 4294967296 * (b2 : Int) + (u0 : Int) < (P2 : Int) := by omega
                obtain rfl : a2 = Q0 := stop2.out (by omega)
                clear step2 stop2
                go_wp2_with fail
                go_ret2
                exact ⟨ret_ints2 (by first | rfl | omega | (simp; done) | (push_cast; omega)) (by first | rfl | (simp; done)), rfl⟩
        · clear step1 stop1
          go_wp2_with fail
          go_round
          case rel => exact ⟨a1 - 1, b1 + yn1, by go_num, by go_num, hI1', by omega, by omega, by omega⟩
          case measure => simp [RowKit.intOf]; omega
      · have hgi1 : ¬ 4294967296 * (b1 : Int) + (u1 : Int) < (P1 : Int) := by omega
        obtain rfl : a1 = Q := stop1.out (by omega)
        clear step1 stop1
        go_wp2_with fail
        go_loop [18, 16] (fun c d => ∃ a b : Nat, c = .int .u64 a ∧ d = .int .u64 b ∧ Hid (a * yn1 + b = R) ∧ Q0 ≤ a ∧ a ≤ 4294967297 ∧ b < 4294967296) (fun c _ => (RowKit.intOf c).toNat)
        case atStart => exact ⟨q', r', rfl, rfl, HI', hQq', by omega, by omega⟩
        case round =>
          obtain ⟨a2, b2, rfl, rfl, hI2, hq2, ha2, hb2⟩ := hrel
          have step2 := Lib.hid (fun hh => digit_step (a := a2) (b := b2) HY.out (by omega) hI2.out HQ0.out hh)
          have stop2 := Lib.hid (fun hh => digit_stop (a := a2) (b := b2) HY.out (by omega) hI2.out HQ0.out hq2 hh)
          by_cases hbig2 : 4294967296 ≤ a2
          · have hbg2 : (4294967296 : Int) ≤ (a2 : Int) := by omega
            have hlt2 : Q0 < a2 := by omega
            have hm2 : IntKind.u64.wrap ((a2 : Int) - 1) = (a2 : Int) - 1 := by rw [IntKind.wrap_u64]; omega
            have hn2 : IntKind.u64.wrap ((b2 : Int) + (yn1 : Int)) = (b2 : Int) + (yn1 : Int) := by rw [IntKind.wrap_u64]; omega
            have hI2' : Hid ((a2 - 1) * yn1 + (b2 + yn1) = R) := Lib.hid (digit_less (by omega) hI2.out)
            by_cases hov2 : (4294967296 : Int) ≤ (b2 : Int) + (yn1 : Int)
            · have hend2 : a2 - 1 = Q0 := digit_stop (b := b2 + yn1) HY.out (by omega) hI2'.out HQ0.out (by omega) (by
                have h1 := Nat.mul_le_mul (show a2 - 1 ≤ 4294967296 by omega) (show yn0 ≤ 4294967295 by omega)
                omega)
              have hen2 : (a2 : Int) - 1 = (Q0 : Int) := by omega
              clear hI2' hend2 step2 stop2 hm2
              have hm2 : IntKind.u64.wrap ((a2 : Int) - 1) = (Q0 : Int) := by rw [IntKind.wrap_u64]; omega
              go_wp2_with fail
              go_ret2
              exact ⟨ret_ints2 (by first | rfl | omega | (simp; done) | (push_cast; omega)) (by first | rfl | (simp; done)), rfl⟩
            · clear step2 stop2
              go_wp2_with fail
              go_round
              case rel => exact ⟨a2 - 1, b2 + yn1, by go_num, by go_num, hI2', by omega, by omega, by omega⟩
              case measure => simp [RowKit.intOf]; omega
          · have hbg2 : ¬ (4294967296 : Int) ≤ (a2 : Int) := by omega
            have hpb2 : a2 * yn0 < 18446744073709551616 := by have := Nat.mul_lt_mul'' (show a2 < 4294967296 by omega) bn0; omega
            have hp2 : IntKind.u64.wrap ((a2 : Int) * (yn0 : Int)) = ((a2 * yn0 : Nat) : Int) := by rw [← Int.natCast_mul, IntKind.wrap_u64]; omega
            obtain ⟨P2, hP2⟩ : ∃ P, a2 * yn0 = P := ⟨_, rfl⟩
            rw [hP2] at hp2 step2 stop2 hpb2
            have hf2 : IntKind.u64.wrap (4294967296 * (b2 : Int)) = 4294967296 * (b2 : Int) := by rw [IntKind.wrap_u64]; omega
            have hg2 : IntKind.u64.wrap (4294967296 * (b2 : Int) + (u0 : Int)) = 4294967296 * (b2 : Int) + (u0 : Int) := by rw [IntKind.wrap_u64]; omega
            clear hP2
            by_cases hgt2 : 4294967296 * b2 + u0 < P2
            · have hgi2 : 4294967296 * (b2 : Int) + (u0 : Int) < (P2 : Int) := by omega
              have hlt2 : Q0 < a2 := by exact step2.out hgt2
              have hm2 : IntKind.u64.wrap ((a2 : Int) - 1) = (a2 : Int) - 1 := by rw [IntKind.wrap_u64]; omega
              have hn2 : IntKind.u64.wrap ((b2 : Int) + (yn1 : Int)) = (b2 : Int) + (yn1 : Int) := by rw [IntKind.wrap_u64]; omega
              have hI2' : Hid ((a2 - 1) * yn1 + (b2 + yn1) = R) := Lib.hid (digit_less (by omega) hI2.out)
              by_cases hov2 : (4294967296 : Int) ≤ (b2 : Int) + (yn1 : Int)
              · have hend2 : a2 - 1 = Q0 := digit_stop (b := b2 + yn1) HY.out (by omega) hI2'.out HQ0.out (by omega) (by
                  have h1 := Nat.mul_le_mul (show a2 - 1 ≤ 4294967296 by omega) (show yn0 ≤ 4294967295 by omega)
                  omega)
                have hen2 : (a2 : Int) - 1 = (Q0 : Int) := by omega
                clear hI2' hend2 step2 stop2 hm2
                have hm2 : IntKind.u64.wrap ((a2 : Int) - 1) = (Q0 : Int) := by rw [IntKind.wrap_u64]; omega
                go_wp2_with fail
                go_ret2
                exact ⟨ret_ints2 (by first | rfl | omega | (simp; done) | (push_cast; omega)) (by first | rfl | (simp; done)), rfl⟩
              · clear step2 stop2
                go_wp2_with fail
                go_round
                case rel => exact ⟨a2 - 1, b2 + yn1, by go_num, by go_num, hI2', by omega, by omega, by omega⟩
                case measure => simp [RowKit.intOf]; omega
            · have hgi2 : ¬ 4294967296 * (b2 : Int) + (u0 : Int) < (P2 : Int) := by omega
              obtain rfl : a2 = Q0 := stop2.out (by omega)
              clear step2 stop2
              go_wp2_with fail
              go_ret2
              exact ⟨ret_ints2 (by first | rfl | omega | (simp; done) | (push_cast; omega)) (by first | rfl | (simp; done)), rfl⟩
end Go.Proofs.YtgklpbgdimkhaaaGreat

