/- Contracts: D65, U3, U4, U5, joined. -/
import Derived.Test.YtfdaiififoomoaaJB7
import Derived.Lib.ItoaNum
import Derived.Test.YtfdaiififoomoaaJB1
import Derived.RangeFuncNested
import Derived.RangeFuncBound
import Derived.RangeFuncCalls
import Derived.RangeFuncLeaves
import Derived.Shelf.Abstract
import Derived.Shelf.RegionOpen
import Derived.OwnWalkIn
import Derived.TacticsInMore
import Derived.LoopNIn
import Derived.LoopIn
namespace Go.Proofs.Ytfdaiififoomoaa
open Go.RowKit Go.Lib
set_option linter.unusedVariables false
set_option linter.unusedSimpArgs false

theorem wrapU (n : Nat) : IntKind.u64.wrap (n : Int) = ((n % 18446744073709551616 : Nat) : Int) := Mul64.wrapM n
theorem wrapU_lt (n : Nat) (h : n < 18446744073709551616) : IntKind.u64.wrap (n : Int) = (n : Int) := Mul64.wrapN n h
theorem wrapU_sub (a b : Nat) (ha : a < 18446744073709551616) (hb : b < 18446744073709551616) : IntKind.u64.wrap ((a : Int) - (b : Int)) = (((a + 18446744073709551616 - b) % 18446744073709551616 : Nat) : Int) := by
  rw [IntKind.wrap_u64]; omega
theorem wrapU_mul (a b : Nat) : IntKind.u64.wrap ((a : Int) * (b : Int)) = ((a * b % 18446744073709551616 : Nat) : Int) := by rw [← Int.natCast_mul]; exact wrapU _
theorem wrapU_add (a b : Nat) : IntKind.u64.wrap ((a : Int) + (b : Int)) = (((a + b) % 18446744073709551616 : Nat) : Int) := by rw [← Int.natCast_add]; exact wrapU _

/-- one digit -/
structure Dg (Y yn1 U u1 q r A1 A2 A3 R Q : Nat) : Prop where
  fq : (U : Int) / (yn1 : Int) = (q : Int)
  fr : IntKind.u64.wrap ((U : Int) - IntKind.u64.wrap ((q : Int) * (yn1 : Int))) = (r : Int)
  bq : q ≤ 4294967297
  br : r < 4294967296
  hqr : q * yn1 + r = U
  hQ : Q = (U * 4294967296 + u1) / Y
  hQq : Q ≤ q
  bQ : Q < 4294967296
  fA1 : IntKind.u64.wrap ((U : Int) * 4294967296) = (A1 : Int)
  fA2 : IntKind.u64.wrap ((A1 : Int) + (u1 : Int)) = (A2 : Int)
  fA3 : IntKind.u64.wrap ((Q : Int) * (Y : Int)) = (A3 : Int)
  fR : IntKind.u64.wrap ((A2 : Int) - (A3 : Int)) = (R : Int)
  bR : R < Y
  hR : R = (U * 4294967296 + u1) % Y
theorem dg_of (Y yn1 yn0 U u1 : Nat) (hY : Y = yn1 * 4294967296 + yn0) (bY : Y < 18446744073709551616) (bn1 : 2147483648 ≤ yn1) (bn1' : yn1 < 4294967296) (bn0 : yn0 < 4294967296) (hU : U < Y) (hu : u1 < 4294967296) :
    ∃ q r A1 A2 A3 R Q, Dg Y yn1 U u1 q r A1 A2 A3 R Q := by
  have h1 := Nat.div_add_mod U yn1
  have h2 := Nat.mod_lt U (show 0 < yn1 by omega)
  rw [Nat.mul_comm] at h1
  have hb := dv_bound Y yn1 yn0 U hY bn1 bn0 hU
  have hf := dv_first Y yn1 yn0 U u1 hY (by omega) hu
  have hl := dv_lt Y U u1 hU hu
  have hr := dv_rest Y U u1 bY hU hu
  refine ⟨U / yn1, U % yn1, U * 4294967296 % 18446744073709551616, (U * 4294967296 % 18446744073709551616 + u1) % 18446744073709551616, (U * 4294967296 + u1) / Y * Y % 18446744073709551616, (U * 4294967296 + u1) % Y, (U * 4294967296 + u1) / Y, ?_, ?_, hb, by omega, h1, rfl, hf, hl, ?_, wrapU_add _ _, wrapU_mul _ _, ?_, Nat.mod_lt _ (by omega), rfl⟩
  · exact (Int.natCast_ediv _ _).symm
  · rw [wrapU_mul]
    generalize U % yn1 = r at *
    generalize U / yn1 * yn1 = m at *
    rw [wrapU_sub _ _ (by omega) (by omega)]
    congr 1
    omega
  · exact wrapU_mul U 4294967296
  · rw [wrapU_sub _ _ (Nat.mod_lt _ (by omega)) (Nat.mod_lt _ (by omega)), hr]

theorem or_add (a b s : Nat) (h : b < 2 ^ s) : (a * 2 ^ s) ||| b = a * 2 ^ s + b := by
  rw [Nat.mul_comm]
  exact (Nat.two_pow_add_eq_or_of_lt h a).symm

theorem two_halves (X : Nat) : X / 4294967296 * 4294967296 + X % 4294967296 = X := by omega

theorem dv_exists (h x y : Nat) (h0 : 0 < h) (hy : h < y) (hy1 : y < 18446744073709551616) (hx : x < 18446744073709551616) :
    ∃ s Y yn1 yn0 H xh U X u1 u0 q r A1 A2 A3 R q' r' C1 C2 C3 R0 Q Q0, (64 : Int) - (Lib.bitLen y : Int) = ((s : Nat) : Int) ∧ Dv h x y s Y yn1 yn0 H xh U X u1 u0 q r A1 A2 A3 R q' r' C1 C2 C3 R0 Q Q0 ∧
      Q * 4294967296 + Q0 = (h * 18446744073709551616 + x) / y ∧ R0 / 2 ^ s = (h * 18446744073709551616 + x) % y := by
  obtain ⟨L1, L2, L3⟩ := bitLenAux_bounds 64 y (by omega) (by omega)
  have e : Lib.bitLen y = bitLenAux 64 y := rfl
  rw [e]
  generalize bitLenAux 64 y = L at *
  have hL : L ≤ 64 := by
    rcases Nat.lt_or_ge 64 L with h1 | h1
    · exfalso
      have : 2 ^ 64 ≤ 2 ^ (L - 1) := Nat.pow_le_pow_right (by omega) (by omega)
      omega
    · exact h1
  obtain ⟨s, rfl⟩ : ∃ s, L = 64 - s := ⟨64 - L, by omega⟩
  have hs : s ≤ 63 := by omega
  have hp0 : 0 < 2 ^ s := Nat.pos_of_ne_zero (by simp)
  have hpp : 2 ^ (64 - s) * 2 ^ s = 18446744073709551616 := by rw [← Nat.pow_add, show 64 - s + s = 64 from by omega]
  have hpq : 2 ^ (64 - s - 1) * 2 ^ s = 9223372036854775808 := by rw [← Nat.pow_add, show 64 - s - 1 + s = 63 from by omega]
  have bY : y * 2 ^ s < 18446744073709551616 := by rw [← hpp]; exact Nat.mul_lt_mul_of_pos_right L3 hp0
  have bY2 : 9223372036854775808 ≤ y * 2 ^ s := by rw [← hpq]; exact Nat.mul_le_mul_right _ L2
  have hhY : h * 2 ^ s + 2 ^ s ≤ y * 2 ^ s := by
    have : (h + 1) * 2 ^ s ≤ y * 2 ^ s := Nat.mul_le_mul_right _ (by omega)
    rw [Nat.add_mul, Nat.one_mul] at this
    exact this
  have hxh : x / 2 ^ (64 - s) < 2 ^ s := Nat.div_lt_of_lt_mul (by rw [hpp]; exact hx)
  have hxs : x * 2 ^ s / 18446744073709551616 = x / 2 ^ (64 - s) := by rw [← hpp]; exact Nat.mul_div_mul_right _ _ hp0
  have hXm := Nat.div_add_mod (x * 2 ^ s) 18446744073709551616
  rw [hxs] at hXm
  have hXl := Nat.mod_lt (x * 2 ^ s) (show 0 < 18446744073709551616 by omega)
  have hor := or_add h (x / 2 ^ (64 - s)) s hxh
  have hpy : ((y : Int) * 2 ^ s) = ((y * 2 ^ s : Nat) : Int) := by rw [Int.natCast_mul, Int.natCast_pow]; rfl
  have hph : ((h : Int) * 2 ^ s) = ((h * 2 ^ s : Nat) : Int) := by rw [Int.natCast_mul, Int.natCast_pow]; rfl
  have hpx : ((x : Int) * 2 ^ s) = ((x * 2 ^ s : Nat) : Int) := by rw [Int.natCast_mul, Int.natCast_pow]; rfl
  have hpd : ((x : Int) / 2 ^ (64 - s)) = ((x / 2 ^ (64 - s) : Nat) : Int) := by rw [Int.natCast_ediv, Int.natCast_pow]; rfl
  have hsum : (h * 2 ^ s + x / 2 ^ (64 - s)) * 18446744073709551616 + x * 2 ^ s % 18446744073709551616 = (h * 18446744073709551616 + x) * 2 ^ s := by
    rw [Nat.add_mul (h * 18446744073709551616) x, Nat.mul_right_comm h, Nat.add_mul]
    omega
  have hsh := dv_shift (h * 18446744073709551616 + x) y s
  rw [← hsum] at hsh
  generalize x * 2 ^ s % 18446744073709551616 = X at *
  generalize x / 2 ^ (64 - s) = xh at *
  obtain ⟨Y, hY⟩ : ∃ Y, y * 2 ^ s = Y := ⟨_, rfl⟩
  obtain ⟨Hh, hH⟩ : ∃ Hh, h * 2 ^ s = Hh := ⟨_, rfl⟩
  rw [hY] at bY bY2 hhY hpy hsh
  rw [hH] at hhY hph hor hsh
  have hUY : Hh + xh < Y := by omega
  have hu0 : X % 4294967296 < 4294967296 := Nat.mod_lt _ (by omega)
  have hu1 : X / 4294967296 < 4294967296 := by omega
  have hYd : Y = Y / 4294967296 * 4294967296 + Y % 4294967296 := by omega
  obtain ⟨q, r, A1, A2, A3, R, Q, d1⟩ := dg_of Y (Y / 4294967296) (Y % 4294967296) (Hh + xh) (X / 4294967296) hYd bY (by omega) (by omega) (Nat.mod_lt _ (by omega)) hUY hu1
  obtain ⟨q', r', C1, C2, C3, R0, Q0, d2⟩ := dg_of Y (Y / 4294967296) (Y % 4294967296) R (X % 4294967296) hYd bY (by omega) (by omega) (Nat.mod_lt _ (by omega)) d1.bR hu0
  have htwo := dv_two Y (Hh + xh) (X / 4294967296) (X % 4294967296) (by omega)
  rw [← d1.hQ, ← d1.hR, ← d2.hQ, ← d2.hR, Nat.add_assoc, two_halves] at htwo
  have hbR0 := d2.bR
  refine ⟨s, Y, Y / 4294967296, Y % 4294967296, Hh, xh, Hh + xh, X, X / 4294967296, X % 4294967296, q, r, A1, A2, A3, R, q', r', C1, C2, C3, R0, Q, Q0, by omega,
    ⟨hy1, hs, ?_, ?_, ?_, ?_, hpd, ?_, ?_, ?_, ?_, d1.fq, d1.fr, bY, by omega, by omega, Nat.mod_lt _ (by omega), by omega, by omega, hu1, hu0, d1.bq, d1.br, d1.hqr, d1.hQ, hYd, d1.hQq, d1.bQ, d1.fA1, d1.fA2, d1.fA3, d1.fR, d1.bR, d2.fq, d2.fr, d2.bq, d2.br, d2.hqr, d2.hQ, d2.hQq, d2.bQ, d2.fA1, d2.fA2, d2.fA3, d2.fR, by omega⟩, ?_, ?_⟩
  · rw [hpy, wrapU_lt _ bY]
  · exact (Int.natCast_ediv _ _).symm
  · exact Mul64.maskN Y bY
  · rw [hph, wrapU_lt _ (by omega)]
  · rw [bits_or_u64_nat _ _ (by omega) (by omega), hor]
  · rw [hpx, wrapU]
    congr 1
    omega
  · exact (Int.natCast_ediv _ _).symm
  · exact Mul64.maskN X (by omega)
  · rw [htwo.1, hsh.1]
  · rw [htwo.2, hsh.2]

theorem div64_any (h x y : Nat) (hy : h < y) (hy1 : y < 18446744073709551616) (hx : x < 18446744073709551616) (w : World) :
    Calls Try.prog 95 #[.int .u64 h, .int .u64 x, .int .u64 y] w fun e w' => e = .returned (.tuple #[.int .u64 (((h * 18446744073709551616 + x) / y : Nat) : Int), .int .u64 (((h * 18446744073709551616 + x) % y : Nat) : Int)]) ∧ ∃ n, w' = w.drewN n := by
  rcases Nat.eq_zero_or_pos h with rfl | h0
  · have := div64_lo x y hx (by omega) hy1 w
    rw [Nat.zero_mul, Nat.zero_add]
    exact this
  · obtain ⟨s, Y, yn1, yn0, H, xh, U, X, u1, u0, q, r, A1, A2, A3, R, q', r', C1, C2, C3, R0, Q, Q0, hs, D, e1, e2⟩ := dv_exists h x y h0 hy hy1 hx
    refine (div64_core (Lib.hid hs) D h0 hy hx w).mono ?_
    rintro e w' ⟨rfl, rfl⟩
    rw [e1, e2]
    exact ⟨rfl, 0, rfl⟩

theorem two_words (p : Nat) : p / 18446744073709551616 * 18446744073709551616 + p % 18446744073709551616 = p := by omega

set_option maxHeartbeats 1000000 in
theorem divide_any (a b c : Int) (ha : I64 a) (hb : I64 b) (hc : I64 c) (hc0 : c ≠ 0) : Divides a b c := fun w => by
  by_cases hs : a.natAbs * b.natAbs < 18446744073709551616
  · exact divide_small a b c ha hb hc hc0 hs w
  · obtain ⟨a1, a2⟩ := ha
    obtain ⟨b1, b2⟩ := hb
    obtain ⟨c1, c2⟩ := hc
    obtain ⟨y, hy⟩ : ∃ y, c.natAbs = y := ⟨_, rfl⟩
    have eW := qW_of a b c _ rfl
    have eR := qR_of a b c _ rfl
    rw [hy] at eW eR
    have hA1 : a.natAbs ≤ 9223372036854775808 := by omega
    have hB1 : b.natAbs ≤ 9223372036854775808 := by omega
    have y0 : 0 < y := by omega
    have y1 : y ≤ 9223372036854775808 := by omega
    have hm := mul64_any a.natAbs b.natAbs (by omega) (by omega)
    have hpb : a.natAbs * b.natAbs ≤ 9223372036854775808 * 9223372036854775808 := Nat.mul_le_mul hA1 hB1
    have hyi : (0 : Int) < (y : Int) := by omega
    have HYC := Lib.hid hy
    have HSC : Hid (∀ w : World, Calls Try.prog 94 #[.int .i64 c] w fun e w' => e = .returned (.int .u64 (y : Int)) ∧ w = w') := Lib.hid (by rw [← hy]; exact size_any c c1 c2)
    clear hy hc0 hA1 hB1
    obtain ⟨p, hp⟩ : ∃ p, a.natAbs * b.natAbs = p := ⟨_, rfl⟩
    rw [hp] at hm eW eR hs hpb
    have hdm := two_words p
    obtain ⟨hi, hhi⟩ : ∃ hi, p / 18446744073709551616 = hi := ⟨_, rfl⟩
    obtain ⟨lo, hlo⟩ : ∃ lo, p % 18446744073709551616 = lo := ⟨_, rfl⟩
    have hlo1 : lo < 18446744073709551616 := by rw [← hlo]; exact Nat.mod_lt _ (by omega)
    rw [hhi, hlo] at hm hdm
    have HM := Lib.hid hm
    clear hm hhi hlo hp
    by_cases hge : (y : Int) ≤ (hi : Int)
    · have hbig : 1000000000000000000 < p / y := by
        have : 18446744073709551616 ≤ p / y := (Nat.le_div_iff_mul_le y0).2 (by
          have := Nat.mul_le_mul_left 18446744073709551616 (show y ≤ hi by omega)
          omega)
        omega
      rw [if_pos hbig] at eW eR
      have EW := Lib.hid eW
      have ER := Lib.hid eR
      clear eW eR hbig hdm
      go_enter Try.func83, Try.ntmps83
      go_wp2_with fail
      go_quiet ((first | (go_at_call 94; exact quiet_left (size_any _ (by assumption) (by assumption) _)) | (go_at_call 93; exact quiet_left (HM.out _))))
      go_wp2_with fail
      refine (HSC.out _).mono ?_
      rintro e w1 ⟨rfl, rfl⟩
      go_wp2
      go_ret2
      exact ⟨ret_ints2 (by rw [EW.out]; rfl) (by rw [ER.out]; rfl), below_drewN ((Below.refl _ _).alloc (Nat.le_refl _) _) _⟩
    · have hlt : hi < y := by omega
      have HD := Lib.hid (div64_any hi lo y hlt (by omega) hlo1)
      rw [hdm] at HD
      have hql : p / y < 18446744073709551616 := Nat.div_lt_of_lt_mul (by
        have := Nat.mul_le_mul_left 18446744073709551616 (show hi + 1 ≤ y by omega)
        rw [Nat.mul_comm y]
        omega)
      have hrl : p % y < y := Nat.mod_lt _ y0
      obtain ⟨q, hq⟩ : ∃ q, p / y = q := ⟨_, rfl⟩
      obtain ⟨r, hr⟩ : ∃ r, p % y = r := ⟨_, rfl⟩
      rw [hq] at HD eW eR hql
      rw [hr] at HD eR hrl
      have EW := Lib.hid eW
      have ER := Lib.hid eR
      clear eW eR hq hr hdm hpb
      by_cases hg : (1000000000000000000 : Int) < (q : Int)
      all_goals
        go_enter Try.func83, Try.ntmps83
        go_wp2_with fail
        go_quiet ((first | (go_at_call 94; exact quiet_left (size_any _ (by assumption) (by assumption) _)) | (go_at_call 93; exact quiet_left (HM.out _))))
        go_wp2_with fail
        refine (HSC.out _).mono ?_
        rintro e w1 ⟨rfl, rfl⟩
        go_wp2_with fail
        refine (HD.out _).mono ?_
        rintro e w1 ⟨rfl, n, rfl⟩
        go_wp2
        go_ret2
        refine ⟨ret_ints2 ?_ ?_, below_drewN ((Below.refl _ _).alloc (Nat.le_refl _) _) _⟩
        · rw [EW.out]
          by_cases h : 1000000000000000000 < q
          · (rw [if_pos h]; try omega)
          · (rw [if_neg h]; try omega)
        · rw [ER.out]
          by_cases h : 1000000000000000000 < q
          · (rw [if_pos h]; try omega)
          · (rw [if_neg h]; try omega)

open Go.RowKit Go.Lib Go.Shelf
set_option linter.unusedVariables false
set_option linter.unusedSimpArgs false
attribute [local go_sem ↓] Go.wp_at_zero Go.wp_at_succ

theorem wrapI (n : Nat) (h : n ≤ 9000000000000000000) : IntKind.i64.wrap (n : Int) = (n : Int) := IntWalk.i64_in _ (by omega)

set_option maxRecDepth 20000 in
set_option maxHeartbeats 1000000 in
theorem through_any (a s t p : Nat) (ha : a ≤ 1000000000000) (hs : s ≤ 1000000000000) (ht : t ≤ 10000) (hp : p ≤ 10000) (w : World) :
    Calls Try.prog 91 #[.agg #[.int .i64 a, .int .i64 s], .int .i64 t, .int .i64 p] w fun e w' => e = .returned (.agg #[.int .i64 ((offW a t : Nat) : Int), .int .i64 ((offS a s t p : Nat) : Int)]) ∧ Below w.heap.size w w' := by
  rcases Nat.eq_zero_or_pos a with rfl | ha0
  · have e1 : offW 0 t = 0 := by simp [offW]
    have e2 : offS 0 s t p = 0 := by simp [offS]
    rw [e1, e2]
    go_enter Try.func91, Try.ntmps91
    go_wp2_with fail
    refine bodyPost_ret (v := .agg #[.int .i64 ((0 : Nat) : Int), .int .i64 ((0 : Nat) : Int)]) (by simp [results, Try.results91, go_sem]) rfl ⟨rfl, ?_⟩
    exact (((Below.refl _ _).alloc (Nat.le_refl _) _).alloc (by simp) _)
  · obtain ⟨b1, b2, b3, b4⟩ := off_fits a s t p ha0 ha hs ht hp
    have o1 := offW_le a t ht
    have o2 := offS_le a s t p ht hp
    have hoff : offS a s t p = s * p * offW a t / (a * 10000) := rfl
    have f2 : Int.tdiv ((a * t : Nat) : Int) 10000 = ((offW a t : Nat) : Int) := by
      rw [Int.tdiv_eq_ediv_of_nonneg (by omega)]; unfold offW; omega
    have f1 : IntKind.i64.wrap ((a : Int) * (t : Int)) = ((a * t : Nat) : Int) := by rw [← Int.natCast_mul]; exact wrapI _ (by omega)
    have f3 : IntKind.i64.wrap ((s : Int) * (p : Int)) = ((s * p : Nat) : Int) := by rw [← Int.natCast_mul]; exact wrapI _ (by omega)
    have f6 : IntKind.i64.wrap ((a : Int) * 10000) = ((a * 10000 : Nat) : Int) := by rw [show (a : Int) * 10000 = ((a * 10000 : Nat) : Int) from by omega]; exact wrapI _ (by omega)
    have f4 := wrapU_lt (s * p) (by omega)
    have f7 := wrapU_lt (a * 10000) (by omega)
    have y0 : 0 < a * 10000 := by omega
    generalize offW a t = o at *
    generalize offS a s t p = q at *
    generalize a * t = m at *
    generalize s * p = n at *
    generalize a * 10000 = y at *
    have hq : (n * o / 18446744073709551616 * 18446744073709551616 + n * o % 18446744073709551616) / y = q := by
      rw [hoff, show n * o / 18446744073709551616 * 18446744073709551616 + n * o % 18446744073709551616 = n * o from by omega]
    have hL : n * o % 18446744073709551616 < 18446744073709551616 := Nat.mod_lt _ (by omega)
    have c1 := Lib.hid (mul64_any n o (by omega) (by omega))
    generalize n * o / 18446744073709551616 = H at *
    generalize n * o % 18446744073709551616 = L at *
    have c2 := Lib.hid (div64_any H L y b4 (by omega) hL)
    rw [hq] at c2
    generalize (H * 18446744073709551616 + L) % y = r at *
    have f5 := wrapU_lt o (by omega)
    have f8 := wrapI q (by omega)
    have f9 := wrapI o (by omega)
    have h0 : ((a : Int) == 0) = false := by simp; omega
    clear hq hoff b1 b2 b3 b4 o1 o2 y0 hL ha hs ht hp ha0
    go_enter Try.func91, Try.ntmps91
    go_wp2_with fail
    refine (c1.out _).mono ?_
    rintro e w1 ⟨rfl, rfl⟩
    go_wp2_with fail
    refine (c2.out _).mono ?_
    rintro e w1 ⟨rfl, nn, rfl⟩
    go_wp2_with fail
    refine bodyPost_ret (v := .agg #[.int .i64 (o : Int), .int .i64 (q : Int)]) (by simp [results, Try.results91, go_sem]) rfl ⟨rfl, ?_⟩
    exact ((below_drewN (below_al2 w _ _) nn).setCell (by simp) _).setCell (by simp) _

def addP (a b : Int × Int) : Int × Int := (a.1 + b.1, a.2 + b.2)
def suU (xs : List (Int × Int)) : Int × Int := xs.foldl addP (0, 0)
theorem suU_snoc (xs : List (Int × Int)) (p : Int × Int) : suU (xs ++ [p]) = addP (suU xs) p := by simp [suU, List.foldl_append]
/-- grams, some ten times as many as there may be -/
def smB (p : Int × Int) : Prop := 0 ≤ p.1 ∧ p.1 ≤ 1000000000000000 ∧ 0 ≤ p.2 ∧ p.2 ≤ 1000000000000000

set_option maxRecDepth 20000 in
set_option maxHeartbeats 1000000 in
theorem sums_any (g off : Nat) (xs : List (Int × Int)) (c : Nat) (w : World) (hx : ∀ p ∈ xs, smB p) (hg : g < w.heap.size) (hr : RRd w g off xs) (hl : xs.length ≤ 1000) :
    Calls Try.prog 52 #[.slice (some ⟨g, off, none⟩) xs.length c] w fun e w' =>
      e = .returned (.agg #[.int .i64 (suU xs).1, .int .i64 (suU xs).2]) ∧ Below w.heap.size w w' := by
  obtain ⟨n, hn⟩ : ∃ n, xs.length = n := ⟨_, rfl⟩
  rw [hn] at hl ⊢
  have Hn := Lib.hid hn
  clear hn
  have HX := Lib.hid hx
  have HR := Lib.hid hr
  clear hx hr
  go_enter Try.func52, Try.ntmps52
  go_wp2_with fail
  go_loopw [8] (fun i wr => ∃ (k : Nat) (a : Int × Int), k ≤ n ∧ i = .int .i64 k ∧ Hid (a = suU (xs.take k)) ∧ Hid (0 ≤ a.1 ∧ a.1 ≤ 1000000000000000 * k ∧ 0 ≤ a.2 ∧ a.2 ≤ 1000000000000000 * k) ∧ wr.cell? ⟨w.heap.size + 1, 0, none⟩ = some (.int .i64 a.1) ∧ wr.cell? ⟨w.heap.size + 1, 1, none⟩ = some (.int .i64 a.2) ∧ wr.frozen? ⟨w.heap.size + 1, 0, none⟩ = false ∧ wr.frozen? ⟨w.heap.size + 1, 1, none⟩ = false ∧
      wr.cell? ⟨w.heap.size, 0, none⟩ = some (.int .i64 0) ∧ wr.cell? ⟨w.heap.size, 1, none⟩ = some (.int .i64 0) ∧ wr.frozen? ⟨w.heap.size, 0, none⟩ = false ∧ wr.frozen? ⟨w.heap.size, 1, none⟩ = false ∧ w.heap.size + 1 < wr.heap.size ∧ Below w.heap.size w wr) (fun i _ => n - (RowKit.intOf i).toNat)
  case atStart =>
    refine ⟨0, (0, 0), Nat.zero_le _, rfl, Lib.hid rfl, Lib.hid (by simp), ?_, ?_, ?_, ?_, ?_, ?_, ?_, ?_, ?_, ?_⟩
    all_goals first | (simp; done) | exact below_al2 w _ _
  case round =>
    obtain ⟨k, ⟨a0, a1⟩, hk, rfl, ha, hDa, c0, c1, f0, f1, d0, d1, e0, e1, hz, hbr⟩ := hrel
    have hz0 : w.heap.size < wr.heap.size := by omega
    have hgw : g < wr.heap.size := by omega
    dsimp only at c0 c1
    by_cases hlt : k < n
    · have hkl : k < xs.length := by rw [Hn.out]; exact hlt
      obtain ⟨⟨p0, p1⟩, hp⟩ : ∃ p, xs[k]? = some p := ⟨_, List.getElem?_eq_getElem hkl⟩
      have hpD : smB (p0, p1) := HX.out _ (List.mem_of_getElem? hp)
      obtain ⟨q0, q1⟩ := (HR.out.below hbr hg) k _ hp
      obtain ⟨r1, r2, r3, r4⟩ := hpD
      obtain ⟨r5, r6, r7, r8⟩ := hDa.out
      have haq : Hid ((a0 + p0, a1 + p1) = suU (xs.take (k + 1))) := Lib.hid (by rw [List.take_add_one, hp, show (some (p0, p1)).toList = [(p0, p1)] from rfl, suU_snoc, ← ha.out]; rfl)
      have hDq : Hid (0 ≤ a0 + p0 ∧ a0 + p0 ≤ 1000000000000000 * ((k + 1 : Nat) : Int) ∧ 0 ≤ a1 + p1 ∧ a1 + p1 ≤ 1000000000000000 * ((k + 1 : Nat) : Int)) := Lib.hid ⟨by omega, by omega, by omega, by omega⟩
      have s0 : IntKind.i64.wrap (a0 + p0) = a0 + p0 := IntWalk.i64_in _ (by omega)
      have s1 : IntKind.i64.wrap (a1 + p1) = a1 + p1 := IntWalk.i64_in _ (by omega)
      clear hp r1 r2 r3 r4 r5 r6 r7 r8 hDa ha
      dsimp only at q0 q1
      go_wp2_with fail
      go_roundw
      case rel =>
        refine ⟨k + 1, (a0 + p0, a1 + p1), by omega, by go_num, haq, hDq, ?_, ?_, ?_, ?_, ?_, ?_, ?_, ?_, by simp; omega, ((hbr.setCell (p := ⟨w.heap.size + 1, 0, none⟩) (by simp) _).setCell (p := ⟨w.heap.size + 1, 1, none⟩) (by simp) _).alloc (by simp; omega) _⟩
        all_goals simp [go_sem, *]
      case measure => simp [RowKit.intOf]; omega
    · obtain rfl : k = n := by omega
      have hfin : (a0, a1) = suU xs := by rw [ha.out, List.take_of_length_le (by rw [Hn.out]; omega)]
      have Hfin := Lib.hid hfin
      clear hfin ha hDa
      go_wp2_with fail
      refine bodyPost_ret (v := .agg #[.int .i64 a0, .int .i64 a1]) (by simp [results, Try.results52, go_sem, *]) rfl ⟨by rw [← Hfin.out], ?_⟩
      exact (hbr.setCell (by simp) _).setCell (by simp) _

open Go.RowKit Go.Lib Go.Shelf
set_option linter.unusedVariables false
set_option linter.unusedSimpArgs false

/-- all blocks but those of U lie as they lay -/
def Kept (U : Nat → Prop) (W W' : World) : Prop := W.heap.size ≤ W'.heap.size ∧ ∀ k o, W.heap[k]? = some o → ¬ U k → W'.heap[k]? = some o
theorem Kept.refl (U : Nat → Prop) (W : World) : Kept U W W := ⟨Nat.le_refl _, fun _ _ h _ => h⟩
theorem Kept.trans {U : Nat → Prop} {A B C : World} (h : Kept U A B) (k : Kept U B C) : Kept U A C := ⟨Nat.le_trans h.1 k.1, fun i o ho hu => k.2 i o (h.2 i o ho hu) hu⟩
theorem Kept.mono {U V : Nat → Prop} {W W' : World} (h : Kept U W W') (hv : ∀ k, U k → V k) : Kept V W W' := ⟨h.1, fun k o ho hu => h.2 k o ho fun hc => hu (hv k hc)⟩
theorem Kept.put {U : Nat → Prop} (W : World) {l : Nat} (o' : Obj) (hl : U l) : Kept U W (W.putObj l o') := ⟨by simp, fun k o ho hu => (World.putObj_heap_other (fun e => hu (by rw [e]; exact hl))).trans ho⟩
theorem Kept.heap {U : Nat → Prop} {W W' : World} (h : Kept U W W') {k : Nat} (hk : k < W.heap.size) (hu : ¬ U k) : W'.heap[k]? = W.heap[k]? := by
  rw [Array.getElem?_eq_getElem hk]
  exact h.2 k _ (Array.getElem?_eq_getElem hk) hu
theorem Kept.cell {U : Nat → Prop} {W W' : World} (h : Kept U W W') {p : Addr} (hk : p.block < W.heap.size) (hu : ¬ U p.block) : W'.cell? p = W.cell? p := World.cell?_of_block (w := W) (h.heap hk hu)
theorem Kept.frozen {U : Nat → Prop} {W W' : World} (h : Kept U W W') {p : Addr} (hk : p.block < W.heap.size) (hu : ¬ U p.block) : W'.frozen? p = W.frozen? p := World.frozen?_of_block (w := W) (h.heap hk hu)
theorem below_putU (W : World) {k B : Nat} (o' : Obj) (h : B ≤ k) : Below B W (W.putObj k o') := ⟨rfl, rfl, rfl, by simp, fun i hi => World.putObj_heap_other (by omega)⟩

/-- an iterator (a closure over lb) that yields enc 0, .., enc (N - 1); between two rounds all blocks but those of U lie as they lay -/
def IterAt (n : Nat) (P : Program) (gf : Nat) (lb : Array Value) (enc : Nat → Array Value) (N : Nat) (U : Nat → Prop) (w : World) : Prop :=
  ∀ (l : Nat) (J Jx : Nat → World → Prop) (W : World), Below w.heap.size w W → w.heap.size ≤ l → l < W.heap.size →
    (∀ k A B, J k A → Below W.heap.size A B → J k B) →
    (∀ k W1, k < N → J k W1 → YieldAt Fence.wide (n - 1 - 1) P l (enc k) W1 fun e W' =>
      (e = .returned (.bool true) ∧ J (k + 1) W' ∧ Kept (fun i => U i ∨ i = l) W1 W') ∨ (e = .returned (.bool false) ∧ Jx k W')) →
    J 0 W → CallsIn Fence.wide (n - 1) P gf (#[.func (.yield l) #[] #[]] ++ lb) W fun e W' => (∃ v, e = .returned v) ∧ (J N W' ∨ ∃ k, k < N ∧ Jx k W')

theorem range_law {P : Program} {n : Nat} {g : Operand} {ps : Array Tmp} {assign body : Code} {Q : Exit → Act → World → Prop} {a : Act} {w : World} {gf : Nat} {lb : Array Value} (N : Nat) (U : Nat → Prop) (enc : Nat → Array Value)
    (hg : a.eval g = .func (.func gf) #[] lb) (eg : ∀ args w, (callFunc gf args).run P w = .ok (.enter gf args) w) (hU : ∀ k, w.heap.size ≤ k → ¬ U k)
    (iter : IterAt n P gf lb enc N U w) (hps : ∀ k, (enc k).size = ps.size)
    (I Ix : Nat → World → Prop) (hI : ∀ k A B, I k A → Below w.heap.size A B → I k B) (hIx : ∀ k A B, Ix k A → Below w.heap.size A B → Ix k B) (h0 : I 0 w)
    (Ax : Nat → Act → World → Prop) (hAx : ∀ k a' A B, Ax k a' A → Below w.heap.size A B → Ax k a' B)
    (hassign : ∀ (l k : Nat) (W : World) (K : Act → World → Prop), k < N → I k W → (∀ a' W', Kept U W W' → Ax k a' W' → K a' W') →
      assign.wpIn (Fence.wide.inRound l) (n - 1 - 1) P (Exit.then K (fun _ _ _ => False)) { tmps := (ps.zip (enc k)).foldl (fun t (p, v) => t.setIfInBounds p v) a.tmps, defers := [] } W)
    (hbody : ∀ (l k : Nat) (a' : Act) (W : World), k < N → Ax k a' W → body.wpIn (Fence.wide.inRound l) (n - 1 - 1) P (fun e _ W' => Kept U W W' ∧ ((e = .normal ∧ I (k + 1) W') ∨ (e = .ret ∧ Ix k W'))) a' W)
    (hdone : ∀ (D : Nat) (W : World), w.heap.size ≤ D → I N W → W.heap[D]? = some (.deferred (some [])) → Q .normal { a with defers := { target := .collected D, args := #[] } :: a.defers } W)
    (hstop : ∀ (D k : Nat) (W : World), w.heap.size ≤ D → k < N → Ix k W → W.heap[D]? = some (.deferred (some [])) → Code.ret.wpIn Fence.wide n P Q { a with defers := { target := .collected D, args := #[] } :: a.defers } W) :
    (Code.rangeFunc g ps assign body).wpIn Fence.wide n P Q a w := by
  refine wpIn_rangeFunc fun fn hfn => ?_
  obtain ⟨D, hD⟩ : ∃ D, w.heap.size = D := ⟨_, rfl⟩
  obtain ⟨rc, hrc⟩ : ∃ rc : LoopState → Option Code → Loop, rc = fun st pe => { state := st, pending := pe, fn, tmps := a.tmps, params := ps, assign, body, defers := D } := ⟨_, rfl⟩
  obtain ⟨w1, hw1⟩ : ∃ w1, (w.alloc (.deferred (some []))).alloc (.loop (rc .ready none)) = w1 := ⟨_, rfl⟩
  have hl : w1.heap[D + 1]? = some (.loop (rc .ready none)) := by
    have := World.alloc_heap_new (w.alloc (.deferred (some []))) (.loop (rc .ready none))
    rw [World.size_alloc, hD] at this
    rw [← hw1]; exact this
  have hd : w1.heap[D]? = some (.deferred (some [])) := by
    rw [← hw1, ← hD]
    exact (Below.heap_alloc _ _ _ (by simp)).trans (World.alloc_heap_new w _)
  have hB1 : Below w.heap.size w w1 := by rw [← hw1]; exact ((Below.refl _ w).alloc (Nat.le_refl _) _).alloc (by simp) _
  have hs1 : w1.heap.size = D + 2 := by rw [← hw1]; simp [hD]
  refine ⟨D + 1, [{ target := .collected D, args := #[] }], w1, { target := .fn (.func gf) lb, args := #[.func (.yield (D + 1)) #[] #[]] }, w1, gf, #[.func (.yield (D + 1)) #[] #[]] ++ lb, w1, ?_, ?_, ?_, ?_, fun h => by simp [Fence.wide] at h, ?_⟩
  · rw [← hw1, hrc, ← hD]; exact run_enterLoop_outer _ _ _ _ _
  · simp only [resolve, hg]
    simp [go_sem]
  · intro f' hf'; trivial
  · simp [invoke, go_sem, eg]
  · refine (iter (D + 1) (fun k W => I k W ∧ W.heap[D + 1]? = some (.loop (rc .ready none)) ∧ W.heap[D]? = some (.deferred (some [])))
      (fun k W => Ix k W ∧ W.heap[D + 1]? = some (.loop (rc .done (some .ret))) ∧ W.heap[D]? = some (.deferred (some []))) w1 hB1 (by omega) (by omega) ?_ ?_ ⟨hI _ _ _ h0 hB1, hl, hd⟩).mono ?_
    · rintro k A B ⟨h1, h2, h3⟩ hb
      exact ⟨hI k A B h1 (hb.mono (by omega)), (hb.block _ (by omega)).trans h2, (hb.block _ (by omega)).trans h3⟩
    · rintro k W hk ⟨hi, hlW, hdW⟩
      have hlt := (Array.getElem?_eq_some_iff.1 hlW).1
      have hy := run_yield (P := P) (args := enc k) hlW (by rw [hrc]; exact hps k)
      rw [hrc] at hy
      refine ⟨fn, _, assign, body, hy, roundIn_of_wpIn hfn (hassign _ k W _ hk hi fun a' W2 hK2 hA2 => ?_)⟩
      have hl2 := hK2.2 _ _ hlW (hU _ (by omega))
      have hd2 := hK2.2 _ _ hdW (hU _ (by omega))
      have hlt2 := (Array.getElem?_eq_some_iff.1 hl2).1
      refine ⟨_, run_beginRound hl2 (by rw [hrc]), ?_⟩
      obtain ⟨W3, hW3⟩ : ∃ W3, W2.putObj (D + 1) (.loop { rc .ready none with state := .busy }) = W3 := ⟨_, rfl⟩
      have l3 : W3.heap[D + 1]? = some (.loop { rc .ready none with state := .busy }) := by rw [← hW3]; exact World.putObj_heap_same hlt2
      have d3 : W3.heap[D]? = some (.deferred (some [])) := by rw [← hW3]; exact (World.putObj_heap_other (by omega)).trans hd2
      have k3 : Kept (fun i => U i ∨ i = D + 1) W W3 := (hK2.mono fun i h => .inl h).trans (by rw [← hW3]; exact Kept.put _ _ (.inr rfl))
      have A3 : Ax k a' W3 := hAx _ _ _ _ hA2 (by rw [← hW3]; exact below_putU _ _ (by omega))
      rw [hW3]
      refine wpIn_mono (hbody _ k a' W3 hk A3) ?_
      rintro e a4 W4 ⟨hk4, hp⟩
      have l4 := hk4.2 _ _ l3 (hU _ (by omega))
      have d4 := hk4.2 _ _ d3 (hU _ (by omega))
      have hlt4 := (Array.getElem?_eq_some_iff.1 l4).1
      rcases hp with ⟨rfl, hi4⟩ | ⟨rfl, hi4⟩
      · have he := run_endRound (P := P) none l4
        refine ⟨_, _, he, .inl ⟨rfl, ⟨hI _ _ _ hi4 (below_putU _ _ (by omega)), ?_, ?_⟩, ?_⟩⟩
        · rw [World.putObj_heap_same hlt4, hrc]; rfl
        · exact (World.putObj_heap_other (by omega)).trans d4
        · exact (k3.trans (hk4.mono fun i h => .inl h)).trans (Kept.put _ _ (.inr rfl))
      · have he := run_endRound (P := P) (some .ret) l4
        refine ⟨_, _, he, .inr ⟨rfl, hIx _ _ _ hi4 (below_putU _ _ (by omega)), ?_, ?_⟩⟩
        · rw [World.putObj_heap_same hlt4, hrc]; rfl
        · exact (World.putObj_heap_other (by omega)).trans d4
    · rintro e W2 ⟨⟨v, rfl⟩, ⟨hi, hlW, hdW⟩ | ⟨k, hk, hi, hlW, hdW⟩⟩
      · have hend := run_endLoop (P := P) hlW (by rw [hrc]; simp)
        rw [hrc] at hend
        exact ⟨none, _, hend, hdone D _ (by omega) (hI _ _ _ hi (below_putU _ _ (by omega))) ((World.putObj_heap_other (by omega)).trans hdW)⟩
      · have hend := run_endLoop (P := P) hlW (by rw [hrc]; simp)
        rw [hrc] at hend
        exact ⟨some .ret, _, hend, hstop D k _ (by omega) hk (hIx _ _ _ hi (below_putU _ _ (by omega))) ((World.putObj_heap_other (by omega)).trans hdW)⟩

open Go.RowKit Go.Lib Go.Shelf
set_option linter.unusedVariables false
set_option linter.unusedSimpArgs false
attribute [local go_sem] Oper.semAt_some

/-- what the iterator yields after k rounds -/
def encK (t p a s : Nat) (k : Nat) : Array Value :=
  #[.agg #[.int .i64 (((rk t p (a, s) k).1 : Nat) : Int), .int .i64 (((rk t p (a, s) k).2 : Nat) : Int)], .agg #[.int .i64 ((a - (rk t p (a, s) k).1 : Nat) : Int), .int .i64 ((s - (rk t p (a, s) k).2 : Nat) : Int)]]

/-- one round, as the walk meets it -/
theorem rk_next (t p a s k : Nat) (ht : t ≤ 10000) (hp : p ≤ 10000) (x1 x2 : Nat) (h1 : (rk t p (a, s) k).1 = x1) (h2 : (rk t p (a, s) k).2 = x2) :
    x1 ≤ a ∧ x2 ≤ s ∧ offW x1 t ≤ x1 ∧ offS x1 x2 t p ≤ x2 ∧ (rk t p (a, s) (k + 1)).1 = x1 - offW x1 t ∧ (rk t p (a, s) (k + 1)).2 = x2 - offS x1 x2 t p := by
  have h := rk_le t p (a, s) k
  rw [h1, h2] at h
  refine ⟨h.1, h.2, offW_le _ _ ht, offS_le _ _ _ _ ht hp, ?_, ?_⟩
  · show (rk t p (a, s) k).1 - offW (rk t p (a, s) k).1 t = _
    rw [h1]
  · show (rk t p (a, s) k).2 - offS (rk t p (a, s) k).1 (rk t p (a, s) k).2 t p = _
    rw [h1, h2]

theorem sum2_any (g cp : Nat) (a b c d x y : Int) (w : World) (hg : g < w.heap.size) (h1 : smB (a, b)) (h2 : smB (c, d)) (c0 : w.cell? ⟨g, 0, none⟩ = some (.int .i64 a)) (c1 : w.cell? ⟨g, 1, none⟩ = some (.int .i64 b)) (c2 : w.cell? ⟨g, 2, none⟩ = some (.int .i64 c)) (c3 : w.cell? ⟨g, 3, none⟩ = some (.int .i64 d)) (hx : a + c = x) (hy : b + d = y) :
    Calls Try.prog 52 #[.slice (some ⟨g, 0, none⟩) 2 cp] w fun e w' => e = .returned (.agg #[.int .i64 x, .int .i64 y]) ∧ Below w.heap.size w w' := by
  have h := sums_any g 0 [(a, b), (c, d)] cp w (by intro p hp; rcases List.mem_cons.1 hp with rfl | hp; exact h1; rcases List.mem_cons.1 hp with rfl | hp; exact h2; cases hp) hg (by
    intro k p hp
    rcases k with _ | _ | k
    · simp at hp; subst hp; exact ⟨c0, c1⟩
    · simp at hp; subst hp; exact ⟨c2, c3⟩
    · simp at hp) (by simp)
  have e : suU [(a, b), (c, d)] = (x, y) := by simp [suU, addP, hx, hy]
  rw [e] at h
  exact h
theorem Kept.of_below {B : Nat} {U : Nat → Prop} {W W' : World} (h : Below B W W') (hU : ∀ k, ¬ U k → k < B) : Kept U W W' := ⟨h.size, fun k o ho hu => (h.block k (hU k hu)).trans ho⟩

set_option maxRecDepth 100000 in
set_option maxHeartbeats 2000000 in
theorem behind1_in (n : Nat) (hn : 2 ≤ n) (t p a s R bs br bt bp : Nat) (ha : a ≤ 1000000000000) (hs : s ≤ 1000000000000) (ht : t ≤ 10000) (hp : p ≤ 10000) (hR : R ≤ 200) (U : Nat → Prop) (w : World)
    (ls : bs < w.heap.size) (lr : br < w.heap.size) (lt : bt < w.heap.size) (lp : bp < w.heap.size) (us : ¬ U bs) (ur : ¬ U br) (ut : ¬ U bt) (up : ¬ U bp) (hU : ∀ k, w.heap.size ≤ k → ¬ U k)
    (s0 : w.cell? ⟨bs, 0, none⟩ = some (.int .i64 (a : Int))) (s1 : w.cell? ⟨bs, 1, none⟩ = some (.int .i64 (s : Int))) (r0 : w.cell? ⟨br, 0, none⟩ = some (.int .i64 (R : Int))) (t0 : w.cell? ⟨bt, 0, none⟩ = some (.int .i64 (t : Int))) (p0 : w.cell? ⟨bp, 0, none⟩ = some (.int .i64 (p : Int))) :
    IterAt n Try.prog 90 #[.pointer (some ⟨bs, 0, none⟩), .pointer (some ⟨br, 0, none⟩), .pointer (some ⟨bt, 0, none⟩), .pointer (some ⟨bp, 0, none⟩)] (encK t p a s) (R + 1) U w := by
  intro l J Jx W hW hl1 hl2 hJ hY h0
  have hWs := hW.size
  have S0 := cell_next hW ls s0
  have S1 := cell_next hW ls s1
  have R0 := cell_next hW lr r0
  have T0 := cell_next hW lt t0
  have P0 := cell_next hW lp p0
  clear s0 s1 r0 t0 p0
  refine callsIn_of_wp Try.func90 rfl trivial ?_ rfl
  simp only [Try.ntmps90, List.size_toArray, List.length_cons, List.length_nil, Nat.reduceAdd, Nat.reduceSub, Array.replicate_succ, Array.replicate_zero, List.push_toArray, List.append_toArray, List.nil_append, List.cons_append]
  gi_wp2
  gi_loopw [8] (fun i wr => ∃ (k x1 x2 : Nat), k ≤ R ∧ i = .int .i64 (k : Int) ∧ Hid ((rk t p (a, s) k).1 = x1) ∧ Hid ((rk t p (a, s) k).2 = x2) ∧ J k wr ∧ Hid (Kept (fun i => U i ∨ i = l ∨ W.heap.size ≤ i) W wr) ∧ W.heap.size + 1 < wr.heap.size ∧
      wr.cell? ⟨W.heap.size, 0, none⟩ = some (.int .i64 (x1 : Int)) ∧ wr.cell? ⟨W.heap.size, 1, none⟩ = some (.int .i64 (x2 : Int)) ∧ wr.frozen? ⟨W.heap.size, 0, none⟩ = false ∧ wr.frozen? ⟨W.heap.size, 1, none⟩ = false ∧
      wr.cell? ⟨W.heap.size + 1, 0, none⟩ = some (.int .i64 ((a - x1 : Nat) : Int)) ∧ wr.cell? ⟨W.heap.size + 1, 1, none⟩ = some (.int .i64 ((s - x2 : Nat) : Int)) ∧ wr.frozen? ⟨W.heap.size + 1, 0, none⟩ = false ∧ wr.frozen? ⟨W.heap.size + 1, 1, none⟩ = false)
    (fun i _ => R - (RowKit.intOf i).toNat)
  case atStart =>
    refine ⟨0, a, s, Nat.zero_le _, rfl, Lib.hid rfl, Lib.hid rfl, hJ 0 _ _ h0 (below_al2 W _ _), Lib.hid (Kept.of_below (below_al2 W _ _) fun i h => by have : ¬ W.heap.size ≤ i := fun hc => h (.inr (.inr hc)); omega), by simp, ?_, ?_, ?_, ?_, ?_, ?_, ?_, ?_⟩
    all_goals simp [go_sem]
  case round =>
    obtain ⟨k, x1, x2, hk, rfl, H1, H2, hJk, HK, hz, k0, k1, fk0, fk1, g0, g1, fg0, fg1⟩ := hrel
    obtain ⟨fn, tmps, assign, body, hy, hRd⟩ := hY k wr (by omega) hJk
    simp only [encK, H1.out, H2.out] at hy
    have hn1 : 1 ≤ n - 1 := by omega
    gi_wp2
    refine hRd.mono ?_
    rintro e W3 (⟨rfl, hJ3, hk3⟩ | ⟨rfl, hJx3⟩)
    · have hz3 := hk3.1
      have hlU : ∀ b, W.heap.size ≤ b → ¬ (U b ∨ b = l) := fun b hb => by
        rintro (h | h)
        · exact hU b (by omega) h
        · omega
      have hV : ∀ b, b < w.heap.size → ¬ U b → ¬ (U b ∨ b = l ∨ W.heap.size ≤ b) := fun b hb hu => by
        rintro (h | h | h)
        · exact hu h
        · omega
        · omega
      have HK3 := Lib.hid (HK.out.trans (hk3.mono fun i h => by rcases h with h | h; exact .inl h; exact .inr (.inl h)))
      have R03 := (HK3.out.cell (p := ⟨br, 0, none⟩) (by show br < _; omega) (hV br lr ur)).trans R0
      have T03 := (HK3.out.cell (p := ⟨bt, 0, none⟩) (by show bt < _; omega) (hV bt lt ut)).trans T0
      have P03 := (HK3.out.cell (p := ⟨bp, 0, none⟩) (by show bp < _; omega) (hV bp lp up)).trans P0
      replace k0 := (hk3.cell (p := ⟨W.heap.size, 0, none⟩) (by show W.heap.size < _; omega) (hlU _ (Nat.le_refl _))).trans k0
      replace k1 := (hk3.cell (p := ⟨W.heap.size, 1, none⟩) (by show W.heap.size < _; omega) (hlU _ (Nat.le_refl _))).trans k1
      replace fk0 := (hk3.frozen (p := ⟨W.heap.size, 0, none⟩) (by show W.heap.size < _; omega) (hlU _ (Nat.le_refl _))).trans fk0
      replace fk1 := (hk3.frozen (p := ⟨W.heap.size, 1, none⟩) (by show W.heap.size < _; omega) (hlU _ (Nat.le_refl _))).trans fk1
      replace g0 := (hk3.cell (p := ⟨W.heap.size + 1, 0, none⟩) hz (hlU _ (by show W.heap.size ≤ W.heap.size + 1; omega))).trans g0
      replace g1 := (hk3.cell (p := ⟨W.heap.size + 1, 1, none⟩) hz (hlU _ (by show W.heap.size ≤ W.heap.size + 1; omega))).trans g1
      replace fg0 := (hk3.frozen (p := ⟨W.heap.size + 1, 0, none⟩) hz (hlU _ (by show W.heap.size ≤ W.heap.size + 1; omega))).trans fg0
      replace fg1 := (hk3.frozen (p := ⟨W.heap.size + 1, 1, none⟩) hz (hlU _ (by show W.heap.size ≤ W.heap.size + 1; omega))).trans fg1
      have hzz : W.heap.size + 1 < W3.heap.size := by omega
      have hlW : l < W3.heap.size := by omega
      clear hk3 hy hRd hlU hV HK hJk
      obtain ⟨b1, b2, b3, b4, b5, b6⟩ := rk_next t p a s k ht hp x1 x2 H1.out H2.out
      have B1 := Lib.hid b1
      have B2 := Lib.hid b2
      have B3 := Lib.hid b3
      have B4 := Lib.hid b4
      have B5 := Lib.hid b5
      have B6 := Lib.hid b6
      clear b1 b2 b3 b4 b5 b6 H1 H2 hz hz3
      by_cases hlt : k < R
      · have t1 : decide ((k : Int) < (R : Int)) = true := by simp; omega
        have c1 := Lib.hid (callsIn_wide (n := n - 1 - 1).2 (through_any x1 x2 t p (by have := B1.out; omega) (by have := B2.out; omega) ht hp W3))
        gi_wp2
        refine ⟨trivial, c1.out.mono ?_⟩
        rintro e W4 ⟨rfl, hb4⟩
        clear c1
        have hz4 := hb4.size
        have hzk : W.heap.size < W3.heap.size := by omega
        replace k0 := cell_next hb4 hzk k0
        replace k1 := cell_next hb4 hzk k1
        replace fk0 := frozen_next hb4 hzk fk0
        replace fk1 := frozen_next hb4 hzk fk1
        replace g0 := cell_next hb4 hzz g0
        replace g1 := cell_next hb4 hzz g1
        replace fg0 := frozen_next hb4 hzz fg0
        replace fg1 := frozen_next hb4 hzz fg1
        have hJ4 := Lib.hid (hJ _ _ _ hJ3 (hb4.mono (by omega)))
        have HK4 := Lib.hid (HK3.out.trans (Kept.of_below hb4 fun i h => by have : ¬ W.heap.size ≤ i := fun hc => h (.inr (.inr hc)); omega))
        have hzz4 : W.heap.size + 1 < W4.heap.size := by omega
        have hz04 : W.heap.size < W4.heap.size := by omega
        clear hb4 HK3 R03 T03 P03 hz4 hzk hzz hlW hJ3
        generalize offW x1 t = o at *
        generalize offS x1 x2 t p = q at *
        have f1 : IntKind.i64.wrap ((x1 : Int) - (o : Int)) = ((x1 - o : Nat) : Int) := by rw [show (x1 : Int) - (o : Int) = ((x1 - o : Nat) : Int) from by have := B3.out; omega]; exact wrapI _ (by have := B1.out; omega)
        have f2 : IntKind.i64.wrap ((x2 : Int) - (q : Int)) = ((x2 - q : Nat) : Int) := by rw [show (x2 : Int) - (q : Int) = ((x2 - q : Nat) : Int) from by have := B4.out; omega]; exact wrapI _ (by have := B2.out; omega)
        gi_wp2
        refine ⟨trivial, (callsIn_wide.2 (sum2_any (W4.heap.size + 1) 2 ((a - x1 : Nat) : Int) ((s - x2 : Nat) : Int) (o : Int) (q : Int) ((a - (x1 - o) : Nat) : Int) ((s - (x2 - q) : Nat) : Int) _ (by simp) ⟨by omega, by omega, by omega, by omega⟩ ⟨by omega, by have h1 := B1.out; have h2 := B3.out; omega, by omega, by have h1 := B2.out; have h2 := B4.out; omega⟩ (by simp [go_sem]) (by simp [go_sem]) (by simp [go_sem]) (by simp [go_sem]) (by have h1 := B1.out; have h2 := B3.out; omega) (by have h1 := B2.out; have h2 := B4.out; omega))).mono ?_⟩
        rintro e W6 ⟨rfl, hb6⟩
        have q0 := cell_next hb6 (b := W.heap.size) (o := 0) (by simp; omega) (v := some (.int .i64 ((x1 - o : Nat) : Int))) (by simp [go_sem, *])
        have q1 := cell_next hb6 (b := W.heap.size) (o := 1) (by simp; omega) (v := some (.int .i64 ((x2 - q : Nat) : Int))) (by simp [go_sem, *])
        have q2 := frozen_next hb6 (b := W.heap.size) (o := 0) (by simp; omega) (v := false) (by simp [go_sem, *])
        have q3 := frozen_next hb6 (b := W.heap.size) (o := 1) (by simp; omega) (v := false) (by simp [go_sem, *])
        have u0 := cell_next hb6 (b := W.heap.size + 1) (o := 0) (by simp; omega) (v := some (.int .i64 ((a - x1 : Nat) : Int))) (by simp [go_sem, *])
        have u1 := cell_next hb6 (b := W.heap.size + 1) (o := 1) (by simp; omega) (v := some (.int .i64 ((s - x2 : Nat) : Int))) (by simp [go_sem, *])
        have u2 := frozen_next hb6 (b := W.heap.size + 1) (o := 0) (by simp; omega) (v := false) (by simp [go_sem, *])
        have u3 := frozen_next hb6 (b := W.heap.size + 1) (o := 1) (by simp; omega) (v := false) (by simp [go_sem, *])
        have hB6 : Below W.heap.size W4 W6 := Below.trans (((((Below.refl _ W4).setCell (p := ⟨W.heap.size, 0, none⟩) (Nat.le_refl _) _).setCell (p := ⟨W.heap.size, 1, none⟩) (Nat.le_refl _) _).alloc (by simp <;> omega) _).alloc (by simp <;> omega) _) (hb6.mono (by simp <;> omega))
        clear hb6 k0 k1 fk0 fk1 g0 g1 fg0 fg1
        have hz6 := hB6.size
        have hzz6 : W.heap.size + 1 < W6.heap.size := by omega
        have hJ6 := Lib.hid (hJ _ _ _ hJ4.out hB6)
        have HK6 := Lib.hid (HK4.out.trans (Kept.of_below hB6 fun i h => by have : ¬ W.heap.size ≤ i := fun hc => h (.inr (.inr hc)); omega))
        clear hB6 hJ4 HK4 hz6 hzz4 hz04
        gi_wp2
        go_roundw
        case rel =>
          refine ⟨k + 1, x1 - o, x2 - q, by omega, by go_num, B5, B6, hJ _ _ _ hJ6.out (((Below.refl _ _).setCell (p := ⟨W.heap.size + 1, 0, none⟩) (by simp) _).setCell (p := ⟨W.heap.size + 1, 1, none⟩) (by simp) _), Lib.hid (HK6.out.trans (Kept.of_below (((Below.refl W.heap.size W6).setCell (p := ⟨W.heap.size + 1, 0, none⟩) (by simp) _).setCell (p := ⟨W.heap.size + 1, 1, none⟩) (by simp) _) fun i h => by have : ¬ W.heap.size ≤ i := fun hc => h (.inr (.inr hc)); omega)), by simpa [World.setCell] using hzz6, ?_, ?_, ?_, ?_, ?_, ?_, ?_, ?_⟩
          all_goals simp [go_sem, *]
        case measure => simp [RowKit.intOf]; omega
      · obtain rfl : k = R := by omega
        have t1 : decide ((k : Int) < (k : Int)) = false := by simp
        gi_wp2
        go_end0
        exact ⟨⟨_, rfl⟩, .inl hJ3⟩
    · gi_wp2
      go_end0
      exact ⟨⟨_, rfl⟩, .inr ⟨k, by omega, hJx3⟩⟩
end Go.Proofs.Ytfdaiififoomoaa
