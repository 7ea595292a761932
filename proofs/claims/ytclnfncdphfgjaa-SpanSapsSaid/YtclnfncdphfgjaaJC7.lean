/- Contracts: D65, C13, P3, R1, U2, U26, joined. -/
import Derived.Test.YtclnfncdphfgjaaJC6
import Derived.Lib.ItoaNum
import Derived.Test.YtclnfncdphfgjaaJC5
import Derived.Test.YtclnfncdphfgjaaJC3
import Derived.Test.YtclnfncdphfgjaaJC2
import Derived.Lib.RabinKarpLaws
namespace Go.Proofs.Ytclnfncdphfgjaa
open Go.RowKit Go.Lib
set_option linter.unusedVariables false
set_option linter.unusedSimpArgs false

theorem wrapU (n : Nat) : IntKind.u64.wrap (n : Int) = ((n % 18446744073709551616 : Nat) : Int) := Mul64.wrapM n
theorem wrapU_lt (n : Nat) (h : n < 18446744073709551616) : IntKind.u64.wrap (n : Int) = (n : Int) := Mul64.wrapN n h
theorem wrapU_sub (a b : Nat) (ha : a < 18446744073709551616) (hb : b < 18446744073709551616) : IntKind.u64.wrap ((a : Int) - (b : Int)) = (((a + 18446744073709551616 - b) % 18446744073709551616 : Nat) : Int) := by
  rw [IntKind.wrap_u64]; omega
theorem wrapU_mul (a b : Nat) : IntKind.u64.wrap ((a : Int) * (b : Int)) = ((a * b % 18446744073709551616 : Nat) : Int) := by rw [← Int.natCast_mul]; exact wrapU _
theorem wrapU_add (a b : Nat) : IntKind.u64.wrap ((a : Int) + (b : Int)) = (((a + b) % 18446744073709551616 : Nat) : Int) := by rw [← Int.natCast_add]; exact wrapU _

/-- one digit -/
structure Dg (Y yn1 U u1 q r A1 A2 A3 R Q : Nat) : Prop where
  fq : (U : Int) / (yn1 : Int) = (q : Int)
  fr : IntKind.u64.wrap ((U : Int) - IntKind.u64.wrap ((q : Int) * (yn1 : Int))) = (r : Int)
  bq : q ≤ 4294967297
  br : r < 4294967296
  hqr : q * yn1 + r = U
  hQ : Q = (U * 4294967296 + u1) / Y
  hQq : Q ≤ q
  bQ : Q < 4294967296
  fA1 : IntKind.u64.wrap ((U : Int) * 4294967296) = (A1 : Int)
  fA2 : IntKind.u64.wrap ((A1 : Int) + (u1 : Int)) = (A2 : Int)
  fA3 : IntKind.u64.wrap ((Q : Int) * (Y : Int)) = (A3 : Int)
  fR : IntKind.u64.wrap ((A2 : Int) - (A3 : Int)) = (R : Int)
  bR : R < Y
  hR : R = (U * 4294967296 + u1) % Y
theorem dg_of (Y yn1 yn0 U u1 : Nat) (hY : Y = yn1 * 4294967296 + yn0) (bY : Y < 18446744073709551616) (bn1 : 2147483648 ≤ yn1) (bn1' : yn1 < 4294967296) (bn0 : yn0 < 4294967296) (hU : U < Y) (hu : u1 < 4294967296) :
    ∃ q r A1 A2 A3 R Q, Dg Y yn1 U u1 q r A1 A2 A3 R Q := by
  have h1 := Nat.div_add_mod U yn1
  have h2 := Nat.mod_lt U (show 0 < yn1 by omega)
  rw [Nat.mul_comm] at h1
  have hb := dv_bound Y yn1 yn0 U hY bn1 bn0 hU
  have hf := dv_first Y yn1 yn0 U u1 hY (by omega) hu
  have hl := dv_lt Y U u1 hU hu
  have hr := dv_rest Y U u1 bY hU hu
  refine ⟨U / yn1, U % yn1, U * 4294967296 % 18446744073709551616, (U * 4294967296 % 18446744073709551616 + u1) % 18446744073709551616, (U * 4294967296 + u1) / Y * Y % 18446744073709551616, (U * 4294967296 + u1) % Y, (U * 4294967296 + u1) / Y, ?_, ?_, hb, by omega, h1, rfl, hf, hl, ?_, wrapU_add _ _, wrapU_mul _ _, ?_, Nat.mod_lt _ (by omega), rfl⟩
  · exact (Int.natCast_ediv _ _).symm
  · rw [wrapU_mul]
    generalize U % yn1 = r at *
    generalize U / yn1 * yn1 = m at *
    rw [wrapU_sub _ _ (by omega) (by omega)]
    congr 1
    omega
  · exact wrapU_mul U 4294967296
  · rw [wrapU_sub _ _ (Nat.mod_lt _ (by omega)) (Nat.mod_lt _ (by omega)), hr]

theorem or_add (a b s : Nat) (h : b < 2 ^ s) : (a * 2 ^ s) ||| b = a * 2 ^ s + b := by
  rw [Nat.mul_comm]
  exact (Nat.two_pow_add_eq_or_of_lt h a).symm

theorem two_halves (X : Nat) : X / 4294967296 * 4294967296 + X % 4294967296 = X := by omega

theorem dv_exists (h x y : Nat) (h0 : 0 < h) (hy : h < y) (hy1 : y < 18446744073709551616) (hx : x < 18446744073709551616) :
    ∃ s Y yn1 yn0 H xh U X u1 u0 q r A1 A2 A3 R q' r' C1 C2 C3 R0 Q Q0, (64 : Int) - (Lib.bitLen y : Int) = ((s : Nat) : Int) ∧ Dv h x y s Y yn1 yn0 H xh U X u1 u0 q r A1 A2 A3 R q' r' C1 C2 C3 R0 Q Q0 ∧
      Q * 4294967296 + Q0 = (h * 18446744073709551616 + x) / y ∧ R0 / 2 ^ s = (h * 18446744073709551616 + x) % y := by
  obtain ⟨L1, L2, L3⟩ := bitLenAux_bounds 64 y (by omega) (by omega)
  have e : Lib.bitLen y = bitLenAux 64 y := rfl
  rw [e]
  generalize bitLenAux 64 y = L at *
  have hL : L ≤ 64 := by
    rcases Nat.lt_or_ge 64 L with h1 | h1
    · exfalso
      have : 2 ^ 64 ≤ 2 ^ (L - 1) := Nat.pow_le_pow_right (by omega) (by omega)
      omega
    · exact h1
  obtain ⟨s, rfl⟩ : ∃ s, L = 64 - s := ⟨64 - L, by omega⟩
  have hs : s ≤ 63 := by omega
  have hp0 : 0 < 2 ^ s := Nat.pos_of_ne_zero (by simp)
  have hpp : 2 ^ (64 - s) * 2 ^ s = 18446744073709551616 := by rw [← Nat.pow_add, show 64 - s + s = 64 from by omega]
  have hpq : 2 ^ (64 - s - 1) * 2 ^ s = 9223372036854775808 := by rw [← Nat.pow_add, show 64 - s - 1 + s = 63 from by omega]
  have bY : y * 2 ^ s < 18446744073709551616 := by rw [← hpp]; exact Nat.mul_lt_mul_of_pos_right L3 hp0
  have bY2 : 9223372036854775808 ≤ y * 2 ^ s := by rw [← hpq]; exact Nat.mul_le_mul_right _ L2
  have hhY : h * 2 ^ s + 2 ^ s ≤ y * 2 ^ s := by
    have : (h + 1) * 2 ^ s ≤ y * 2 ^ s := Nat.mul_le_mul_right _ (by omega)
    rw [Nat.add_mul, Nat.one_mul] at this
    exact this
  have hxh : x / 2 ^ (64 - s) < 2 ^ s := Nat.div_lt_of_lt_mul (by rw [hpp]; exact hx)
  have hxs : x * 2 ^ s / 18446744073709551616 = x / 2 ^ (64 - s) := by rw [← hpp]; exact Nat.mul_div_mul_right _ _ hp0
  have hXm := Nat.div_add_mod (x * 2 ^ s) 18446744073709551616
  rw [hxs] at hXm
  have hXl := Nat.mod_lt (x * 2 ^ s) (show 0 < 18446744073709551616 by omega)
  have hor := or_add h (x / 2 ^ (64 - s)) s hxh
  have hpy : ((y : Int) * 2 ^ s) = ((y * 2 ^ s : Nat) : Int) := by rw [Int.natCast_mul, Int.natCast_pow]; rfl
  have hph : ((h : Int) * 2 ^ s) = ((h * 2 ^ s : Nat) : Int) := by rw [Int.natCast_mul, Int.natCast_pow]; rfl
  have hpx : ((x : Int) * 2 ^ s) = ((x * 2 ^ s : Nat) : Int) := by rw [Int.natCast_mul, Int.natCast_pow]; rfl
  have hpd : ((x : Int) / 2 ^ (64 - s)) = ((x / 2 ^ (64 - s) : Nat) : Int) := by rw [Int.natCast_ediv, Int.natCast_pow]; rfl
  have hsum : (h * 2 ^ s + x / 2 ^ (64 - s)) * 18446744073709551616 + x * 2 ^ s % 18446744073709551616 = (h * 18446744073709551616 + x) * 2 ^ s := by
    rw [Nat.add_mul (h * 18446744073709551616) x, Nat.mul_right_comm h, Nat.add_mul]
    omega
  have hsh := dv_shift (h * 18446744073709551616 + x) y s
  rw [← hsum] at hsh
  generalize x * 2 ^ s % 18446744073709551616 = X at *
  generalize x / 2 ^ (64 - s) = xh at *
  obtain ⟨Y, hY⟩ : ∃ Y, y * 2 ^ s = Y := ⟨_, rfl⟩
  obtain ⟨Hh, hH⟩ : ∃ Hh, h * 2 ^ s = Hh := ⟨_, rfl⟩
  rw [hY] at bY bY2 hhY hpy hsh
  rw [hH] at hhY hph hor hsh
  have hUY : Hh + xh < Y := by omega
  have hu0 : X % 4294967296 < 4294967296 := Nat.mod_lt _ (by omega)
  have hu1 : X / 4294967296 < 4294967296 := by omega
  have hYd : Y = Y / 4294967296 * 4294967296 + Y % 4294967296 := by omega
  obtain ⟨q, r, A1, A2, A3, R, Q, d1⟩ := dg_of Y (Y / 4294967296) (Y % 4294967296) (Hh + xh) (X / 4294967296) hYd bY (by omega) (by omega) (Nat.mod_lt _ (by omega)) hUY hu1
  obtain ⟨q', r', C1, C2, C3, R0, Q0, d2⟩ := dg_of Y (Y / 4294967296) (Y % 4294967296) R (X % 4294967296) hYd bY (by omega) (by omega) (Nat.mod_lt _ (by omega)) d1.bR hu0
  have htwo := dv_two Y (Hh + xh) (X / 4294967296) (X % 4294967296) (by omega)
  rw [← d1.hQ, ← d1.hR, ← d2.hQ, ← d2.hR, Nat.add_assoc, two_halves] at htwo
  have hbR0 := d2.bR
  refine ⟨s, Y, Y / 4294967296, Y % 4294967296, Hh, xh, Hh + xh, X, X / 4294967296, X % 4294967296, q, r, A1, A2, A3, R, q', r', C1, C2, C3, R0, Q, Q0, by omega,
    ⟨hy1, hs, ?_, ?_, ?_, ?_, hpd, ?_, ?_, ?_, ?_, d1.fq, d1.fr, bY, by omega, by omega, Nat.mod_lt _ (by omega), by omega, by omega, hu1, hu0, d1.bq, d1.br, d1.hqr, d1.hQ, hYd, d1.hQq, d1.bQ, d1.fA1, d1.fA2, d1.fA3, d1.fR, d1.bR, d2.fq, d2.fr, d2.bq, d2.br, d2.hqr, d2.hQ, d2.hQq, d2.bQ, d2.fA1, d2.fA2, d2.fA3, d2.fR, by omega⟩, ?_, ?_⟩
  · rw [hpy, wrapU_lt _ bY]
  · exact (Int.natCast_ediv _ _).symm
  · exact Mul64.maskN Y bY
  · rw [hph, wrapU_lt _ (by omega)]
  · rw [bits_or_u64_nat _ _ (by omega) (by omega), hor]
  · rw [hpx, wrapU]
    congr 1
    omega
  · exact (Int.natCast_ediv _ _).symm
  · exact Mul64.maskN X (by omega)
  · rw [htwo.1, hsh.1]
  · rw [htwo.2, hsh.2]

theorem div64_any (h x y : Nat) (hy : h < y) (hy1 : y < 18446744073709551616) (hx : x < 18446744073709551616) (w : World) :
    Calls Try.prog 136 #[.int .u64 h, .int .u64 x, .int .u64 y] w fun e w' => e = .returned (.tuple #[.int .u64 (((h * 18446744073709551616 + x) / y : Nat) : Int), .int .u64 (((h * 18446744073709551616 + x) % y : Nat) : Int)]) ∧ ∃ n, w' = w.drewN n := by
  rcases Nat.eq_zero_or_pos h with rfl | h0
  · have := div64_lo x y hx (by omega) hy1 w
    rw [Nat.zero_mul, Nat.zero_add]
    exact this
  · obtain ⟨s, Y, yn1, yn0, H, xh, U, X, u1, u0, q, r, A1, A2, A3, R, q', r', C1, C2, C3, R0, Q, Q0, hs, D, e1, e2⟩ := dv_exists h x y h0 hy hy1 hx
    refine (div64_core (Lib.hid hs) D h0 hy hx w).mono ?_
    rintro e w' ⟨rfl, rfl⟩
    rw [e1, e2]
    exact ⟨rfl, 0, rfl⟩

theorem two_words (p : Nat) : p / 18446744073709551616 * 18446744073709551616 + p % 18446744073709551616 = p := by omega

set_option maxHeartbeats 1000000 in
theorem divide_any (a b c : Int) (ha : I64 a) (hb : I64 b) (hc : I64 c) (hc0 : c ≠ 0) : Divides a b c := fun w => by
  by_cases hs : a.natAbs * b.natAbs < 18446744073709551616
  · exact divide_small a b c ha hb hc hc0 hs w
  · obtain ⟨a1, a2⟩ := ha
    obtain ⟨b1, b2⟩ := hb
    obtain ⟨c1, c2⟩ := hc
    obtain ⟨y, hy⟩ : ∃ y, c.natAbs = y := ⟨_, rfl⟩
    have eW := qW_of a b c _ rfl
    have eR := qR_of a b c _ rfl
    rw [hy] at eW eR
    have hA1 : a.natAbs ≤ 9223372036854775808 := by omega
    have hB1 : b.natAbs ≤ 9223372036854775808 := by omega
    have y0 : 0 < y := by omega
    have y1 : y ≤ 9223372036854775808 := by omega
    have hm := mul64_any a.natAbs b.natAbs (by omega) (by omega)
    have hpb : a.natAbs * b.natAbs ≤ 9223372036854775808 * 9223372036854775808 := Nat.mul_le_mul hA1 hB1
    have hyi : (0 : Int) < (y : Int) := by omega
    have HYC := Lib.hid hy
    have HSC : Hid (∀ w : World, Calls Try.prog 135 #[.int .i64 c] w fun e w' => e = .returned (.int .u64 (y : Int)) ∧ w = w') := Lib.hid (by rw [← hy]; exact size_any c c1 c2)
    clear hy hc0 hA1 hB1
    obtain ⟨p, hp⟩ : ∃ p, a.natAbs * b.natAbs = p := ⟨_, rfl⟩
    rw [hp] at hm eW eR hs hpb
    have hdm := two_words p
    obtain ⟨hi, hhi⟩ : ∃ hi, p / 18446744073709551616 = hi := ⟨_, rfl⟩
    obtain ⟨lo, hlo⟩ : ∃ lo, p % 18446744073709551616 = lo := ⟨_, rfl⟩
    have hlo1 : lo < 18446744073709551616 := by rw [← hlo]; exact Nat.mod_lt _ (by omega)
    rw [hhi, hlo] at hm hdm
    have HM := Lib.hid hm
    clear hm hhi hlo hp
    by_cases hge : (y : Int) ≤ (hi : Int)
    · have hbig : 1000000000000000000 < p / y := by
        have : 18446744073709551616 ≤ p / y := (Nat.le_div_iff_mul_le y0).2 (by
          have := Nat.mul_le_mul_left 18446744073709551616 (show y ≤ hi by omega)
          omega)
        omega
      rw [if_pos hbig] at eW eR
      have EW := Lib.hid eW
      have ER := Lib.hid eR
      clear eW eR hbig hdm
      go_enter Try.func106, Try.ntmps106
      go_wp2_with fail
      go_quiet ((first | (go_at_call 135; exact quiet_left (size_any _ (by assumption) (by assumption) _)) | (go_at_call 134; exact quiet_left (HM.out _))))
      go_wp2_with fail
      refine (HSC.out _).mono ?_
      rintro e w1 ⟨rfl, rfl⟩
      go_wp2
      go_ret2
      exact ⟨ret_ints2 (by rw [EW.out]; rfl) (by rw [ER.out]; rfl), below_drewN ((Below.refl _ _).alloc (Nat.le_refl _) _) _⟩
    · have hlt : hi < y := by omega
      have HD := Lib.hid (div64_any hi lo y hlt (by omega) hlo1)
      rw [hdm] at HD
      have hql : p / y < 18446744073709551616 := Nat.div_lt_of_lt_mul (by
        have := Nat.mul_le_mul_left 18446744073709551616 (show hi + 1 ≤ y by omega)
        rw [Nat.mul_comm y]
        omega)
      have hrl : p % y < y := Nat.mod_lt _ y0
      obtain ⟨q, hq⟩ : ∃ q, p / y = q := ⟨_, rfl⟩
      obtain ⟨r, hr⟩ : ∃ r, p % y = r := ⟨_, rfl⟩
      rw [hq] at HD eW eR hql
      rw [hr] at HD eR hrl
      have EW := Lib.hid eW
      have ER := Lib.hid eR
      clear eW eR hq hr hdm hpb
      by_cases hg : (1000000000000000000 : Int) < (q : Int)
      all_goals
        go_enter Try.func106, Try.ntmps106
        go_wp2_with fail
        go_quiet ((first | (go_at_call 135; exact quiet_left (size_any _ (by assumption) (by assumption) _)) | (go_at_call 134; exact quiet_left (HM.out _))))
        go_wp2_with fail
        refine (HSC.out _).mono ?_
        rintro e w1 ⟨rfl, rfl⟩
        go_wp2_with fail
        refine (HD.out _).mono ?_
        rintro e w1 ⟨rfl, n, rfl⟩
        go_wp2
        go_ret2
        refine ⟨ret_ints2 ?_ ?_, below_drewN ((Below.refl _ _).alloc (Nat.le_refl _) _) _⟩
        · rw [EW.out]
          by_cases h : 1000000000000000000 < q
          · (rw [if_pos h]; try omega)
          · (rw [if_neg h]; try omega)
        · rw [ER.out]
          by_cases h : 1000000000000000000 < q
          · (rw [if_pos h]; try omega)
          · (rw [if_neg h]; try omega)

open Go.RowKit Go.Lib Go.Shelf
set_option linter.unusedVariables false
set_option linter.unusedSimpArgs false
attribute [local go_sem ↓] Go.wp_at_zero Go.wp_at_succ

theorem keep3 {w W W' : World} {b B : Nat} {x y : Option Value} (hb : Below W.heap.size W W') (h : W.cell? ⟨b, 0, none⟩ = x ∧ W.cell? ⟨b, 1, none⟩ = y ∧ b < W.heap.size ∧ Kp B w W) :
    W'.cell? ⟨b, 0, none⟩ = x ∧ W'.cell? ⟨b, 1, none⟩ = y ∧ b < W'.heap.size ∧ Kp B w W' := by
  obtain ⟨h1, h2, h4, h3⟩ := h
  exact ⟨cell_next hb h4 h1, cell_next hb h4 h2, Nat.lt_of_lt_of_le h4 hb.size, h3.next h3.1.size hb⟩
theorem keep3_set {w W : World} {b B : Nat} {x y : Option Value} {u v : Value} (hB : b ≠ B) (hw : w.heap.size ≤ B) (h : W.cell? ⟨b, 0, none⟩ = x ∧ W.cell? ⟨b, 1, none⟩ = y ∧ b < W.heap.size ∧ Kp B w W) :
    ((W.setCell ⟨B, 0, none⟩ u).setCell ⟨B, 1, none⟩ v).cell? ⟨b, 0, none⟩ = x ∧ ((W.setCell ⟨B, 0, none⟩ u).setCell ⟨B, 1, none⟩ v).cell? ⟨b, 1, none⟩ = y ∧ b < ((W.setCell ⟨B, 0, none⟩ u).setCell ⟨B, 1, none⟩ v).heap.size ∧ Kp B w ((W.setCell ⟨B, 0, none⟩ u).setCell ⟨B, 1, none⟩ v) := by
  obtain ⟨h1, h2, h4, h3⟩ := h
  refine ⟨?_, ?_, by simpa using h4, h3.set hw u v⟩
  · rw [World.cell?_setCell_other _ _ _ _ (by intro e; injection e; omega), World.cell?_setCell_other _ _ _ _ (by intro e; injection e; omega)]; exact h1
  · rw [World.cell?_setCell_other _ _ _ _ (by intro e; injection e; omega), World.cell?_setCell_other _ _ _ _ (by intro e; injection e; omega)]; exact h2

/-- what Brix returns -/
def brE (a s : Int) : Int := if spB a s then (if a + s = 0 then 7 else 0) else 2
def brL (a s : Int) : Int := if brE a s = 0 then qLo s 10000 (a + s) else 0
def brH (a s : Int) : Int := if brE a s = 0 then qHi s 10000 (a + s) else 0
theorem brE_ok {a s : Int} (h : brE a s = 0) : spB a s = true ∧ a + s ≠ 0 := by
  unfold brE at h
  split at h
  · split at h
    · cases h
    · exact ⟨by assumption, by assumption⟩
  · cases h

set_option linter.unusedVariables false
set_option linter.unusedSimpArgs false

theorem fl_le {N m : Int} (hm : 0 < m) : m * (N / m) ≤ N := by
  have h := Int.mul_ediv_add_emod N m
  have h1 := Int.emod_nonneg N (show m ≠ 0 by omega)
  omega
theorem fl_lt {N m : Int} (hm : 0 < m) : N < m * (N / m + 1) := by
  have h := Int.mul_ediv_add_emod N m
  have h1 := Int.emod_lt_of_pos N hm
  rw [Int.mul_add, Int.mul_one]
  omega
theorem fl_ge {N m k : Int} (hm : 0 < m) (h : k * m ≤ N) : k ≤ N / m := (Int.le_ediv_iff_mul_le hm).2 h
theorem fl_mono {N m m' : Int} (hN : 0 ≤ N) (hm' : 0 < m') (h : m' ≤ m) : N / m ≤ N / m' := by
  refine fl_ge hm' ?_
  have h1 := fl_le (N := N) (m := m) (by omega)
  have h2 : 0 ≤ N / m := Int.ediv_nonneg hN (by omega)
  have h3 : N / m * m' ≤ N / m * m := Int.mul_le_mul_of_nonneg_left h h2
  rw [Int.mul_comm m] at h1
  omega
theorem ce_le {N m k : Int} (hm : 0 < m) (h : N ≤ k * m) : -(-N / m) ≤ k := by
  have : -k ≤ -N / m := fl_ge hm (by rw [Int.neg_mul]; omega)
  omega
theorem ce_ge {N m : Int} (hm : 0 < m) : N ≤ -(-N / m) * m := by
  have h := fl_le (N := -N) (m := m) hm
  rw [Int.mul_comm] at h
  rw [Int.neg_mul]
  omega
theorem ce_mono {N m m' : Int} (hN : 0 ≤ N) (hm' : 0 < m') (h : m' ≤ m) : -(-N / m) ≤ -(-N / m') := by
  refine ce_le (by omega) ?_
  have h1 := ce_ge (N := N) (m := m') hm'
  have h2 : 0 ≤ -(-N / m') := by
    have : -N / m' ≤ 0 := Int.ediv_nonpos_of_nonpos_of_neg (by omega) (by omega)
    omega
  have h3 := Int.mul_le_mul_of_nonneg_left h h2
  omega
theorem fl_ce {N m : Int} (hm : 0 < m) : -(-N / m) = N / m ∨ -(-N / m) = N / m + 1 := by
  have h1 := fl_le (N := N) (m := m) hm
  have h2 := fl_lt (N := N) (m := m) hm
  have h3 : -(-N / m) ≤ N / m + 1 := ce_le hm (by rw [Int.mul_comm]; omega)
  have h4 : N / m ≤ -(-N / m) := by
    have := ce_ge (N := N) (m := m) hm
    by_cases h : N / m ≤ -(-N / m)
    · exact h
    · exfalso
      have h5 : -(-N / m) + 1 ≤ N / m := by omega
      have h6 := Int.mul_le_mul_of_nonneg_right h5 (show 0 ≤ m by omega)
      rw [Int.add_mul, Int.one_mul] at h6
      rw [Int.mul_comm m] at h1
      omega
  omega

/-- what is known of sap (W, S), a concentration b, what goes off (w), and both concentrations -/
structure Boils (W S b w xl xh yl yh : Int) : Prop where
  w0 : 0 ≤ w
  w1 : w ≤ W
  c3 : b * (W - w + S) ≤ S * 10000
  c4 : 0 < w → S * 10000 < b * (W - w + 1 + S)
  lb : b ≤ yl
  lx : xl ≤ yl
  hx : xh ≤ yh
  xx : xh = xl ∨ xh = xl + 1
  x0 : 0 ≤ xl
  ht : yh ≤ 10000
  wx : w = 0 ↔ b ≤ xl
  p1 : 0 ≤ b * (W - w + S)
  p2 : b * (W - w + S) ≤ 1000000000000000000
  p3 : 0 ≤ b * (W - w + 1 + S)
  p4 : b * (W - w + 1 + S) ≤ 1000000000000000000
theorem prod_bd {b m : Int} (b0 : 1 ≤ b) (b1 : b ≤ 10000) (m0 : 0 ≤ m) (m1 : m ≤ 10000000000000) : 0 ≤ b * m ∧ b * m ≤ 1000000000000000000 := by
  have h1 : 0 ≤ b * m := Int.mul_nonneg (by omega) m0
  have h2 : b * m ≤ 10000 * m := Int.mul_le_mul_of_nonneg_right b1 m0
  omega
theorem boils_of (W S b : Int) (hW : 0 ≤ W) (hW1 : W ≤ 4294967295) (hS : 0 < S) (hS1 : S ≤ 4294967295) (b0 : 1 ≤ b) (b1 : b ≤ 10000) (w : Int) (hw : w = max 0 (W + S - S * 10000 / b)) :
    Boils W S b w (S * 10000 / (W + S)) (-(-(S * 10000) / (W + S))) (S * 10000 / (W - w + S)) (-(-(S * 10000) / (W - w + S))) := by
  have hq1 := fl_le (N := S * 10000) (m := b) (by omega)
  have hq2 := fl_lt (N := S * 10000) (m := b) (by omega)
  have hqS : S ≤ S * 10000 / b := fl_ge (by omega) (Int.mul_le_mul_of_nonneg_left b1 (by omega))
  generalize S * 10000 / b = q at *
  have hw0 : 0 ≤ w := by omega
  have hw1 : w ≤ W := by omega
  have hm' : W - w + S ≤ q := by omega
  have hc3 : b * (W - w + S) ≤ S * 10000 := Int.le_trans (Int.mul_le_mul_of_nonneg_left hm' (by omega)) hq1
  have hN : 0 ≤ S * 10000 := by omega
  obtain ⟨p1, p2⟩ := prod_bd (m := W - w + S) b0 b1 (by omega) (by omega)
  obtain ⟨p3, p4⟩ := prod_bd (m := W - w + 1 + S) b0 b1 (by omega) (by omega)
  refine ⟨hw0, hw1, hc3, fun h => ?_, fl_ge (by omega) hc3, fl_mono hN (by omega) (by omega), ce_mono hN (by omega) (by omega), fl_ce (by omega), Int.ediv_nonneg hN (by omega), ce_le (by omega) ?_, ?_, p1, p2, p3, p4⟩
  · have e : W - w + 1 + S = q + 1 := by omega
    rw [e]; exact hq2
  · have : S * 10000 ≤ (W - w + S) * 10000 := Int.mul_le_mul_of_nonneg_right (by omega) (by omega)
    rw [Int.mul_comm 10000]; exact this
  · constructor
    · intro h
      subst h
      refine fl_ge (by omega) ?_
      have : W - 0 + S = W + S := by omega
      rw [this] at hc3
      exact hc3
    · intro h
      have h1 := fl_le (N := S * 10000) (m := W + S) (by omega)
      have h2 : b * (W + S) ≤ S * 10000 := by
        have := Int.mul_le_mul_of_nonneg_left h (show 0 ≤ W + S by omega)
        rw [Int.mul_comm b]
        omega
      have h3 : W + S ≤ q := by
        by_cases h4 : W + S ≤ q
        · exact h4
        · exfalso
          have h5 : b * (q + 1) ≤ b * (W + S) := Int.mul_le_mul_of_nonneg_left (by omega) (by omega)
          omega
      omega

open Go.RowKit Go.Lib Go.Shelf
set_option linter.unusedVariables false
set_option linter.unusedSimpArgs false
attribute [local go_sem ↓] Go.wp_at_zero Go.wp_at_succ

set_option maxHeartbeats 400000 in
theorem rSap_any (a s : Int) (w : World) :
    Calls Try.prog 59 #[.agg #[.int .i64 a, .int .i64 s]] w fun e w' => e = .returned (.bool (spB a s)) ∧ Below w.heap.size w w' := by
  have c1 := Lib.hid (rIn_any a 0 1000000000000)
  have c2 := Lib.hid (rIn_any s 0 1000000000000)
  have hv : Hid (spB a s = ((decide (0 ≤ a) && decide (a ≤ 1000000000000)) && (decide (0 ≤ s) && decide (s ≤ 1000000000000)))) := Lib.hid (by simp [spB, Bool.and_assoc])
  generalize (decide (0 ≤ a) && decide (a ≤ 1000000000000)) = p at *
  generalize (decide (0 ≤ s) && decide (s ≤ 1000000000000)) = q at *
  cases p
  · go_enter Try.func59, Try.ntmps59
    go_wp2_with fail
    refine (c1.out _).mono ?_
    rintro e w1 ⟨rfl, rfl⟩
    go_wp2_with fail
    go_ret
    exact ⟨by rw [hv.out]; rfl, (Below.refl _ _).alloc (Nat.le_refl _) _⟩
  · go_enter Try.func59, Try.ntmps59
    go_wp2_with fail
    refine (c1.out _).mono ?_
    rintro e w1 ⟨rfl, rfl⟩
    go_wp2_with fail
    refine (c2.out _).mono ?_
    rintro e w1 ⟨rfl, rfl⟩
    go_wp2_with fail
    go_ret
    exact ⟨by rw [hv.out]; rfl, (Below.refl _ _).alloc (Nat.le_refl _) _⟩

theorem floor_pos (a b : Int) (ha : 0 ≤ a) : a.tdiv b = a / b ∧ a.tmod b = a % b := ⟨Int.tdiv_eq_ediv_of_nonneg ha, Int.tmod_eq_emod_of_nonneg ha⟩
theorem floor_neg (a b : Int) (ha : a < 0) (hb : 0 < b) : (a.tmod b < 0 → a / b = a.tdiv b - 1) ∧ (¬ a.tmod b < 0 → a / b = a.tdiv b) := by
  have h := Int.mul_tdiv_add_tmod a b
  have h1 : a.tmod b ≤ 0 := by
    have := Int.tmod_nonneg b (show 0 ≤ -a by omega)
    rw [Int.neg_tmod] at this
    omega
  have h2 : -b < a.tmod b := by
    have := Int.tmod_lt_of_pos (-a) hb
    rw [Int.neg_tmod] at this
    omega
  generalize a.tdiv b = q at *
  generalize a.tmod b = r at *
  constructor
  · intro hr
    exact ((Int.ediv_emod_unique (a := a) (b := b) (r := b + r) (q := q - 1) hb).2 ⟨by rw [Int.mul_sub, Int.mul_one]; omega, by omega, by omega⟩).1
  · intro hr
    exact ((Int.ediv_emod_unique (a := a) (b := b) (r := r) (q := q) hb).2 ⟨by omega, by omega, by omega⟩).1
theorem tdiv_abs (a b : Int) (hb : 0 < b) (B : Int) (h1 : -B ≤ a) (h2 : a ≤ B) : -B ≤ a.tdiv b ∧ a.tdiv b ≤ B := by
  have h : (a.tdiv b).natAbs ≤ a.natAbs := by rw [Int.natAbs_tdiv]; exact Nat.div_le_self _ _
  omega
theorem tmod_abs (a b : Int) (hb : 0 < b) : -b < a.tmod b ∧ a.tmod b < b := by
  have h1 := Int.tmod_lt_of_pos a hb
  have h2 : -b < a.tmod b := by
    have := Int.tmod_lt_of_pos (-a) hb
    rw [Int.neg_tmod] at this
    omega
  exact ⟨h2, h1⟩

set_option maxHeartbeats 400000 in
theorem rFloor_any (a b : Int) (ha : -4000000000000000000 ≤ a ∧ a ≤ 4000000000000000000) (hb : 0 < b) (hb2 : b ≤ 4000000000000000000) (w : World) :
    Calls Try.prog 69 #[.int .i64 a, .int .i64 b] w fun e w' => e = .returned (.int .i64 (a / b)) ∧ w = w' := by
  obtain ⟨a1, a2⟩ := ha
  obtain ⟨q1, q2⟩ := tdiv_abs a b hb _ a1 a2
  obtain ⟨r1, r2⟩ := tmod_abs a b hb
  have hb0 : (b == 0) = false := by simp; omega
  have e : Hid (a / b = if a.tmod b < 0 then a.tdiv b - 1 else a.tdiv b) := Lib.hid (by
    by_cases h : a < 0
    · obtain ⟨e1, e2⟩ := floor_neg a b h hb
      split
      · exact e1 (by assumption)
      · exact e2 (by assumption)
    · obtain ⟨e1, e2⟩ := floor_pos a b (by omega)
      have := Int.emod_nonneg a (show b ≠ 0 by omega)
      rw [if_neg (by omega)]
      exact e1.symm)
  by_cases h0 : a < 0
  · by_cases h : a.tmod b < 0
    · have E : Hid (a / b = a.tdiv b - 1) := Lib.hid (by rw [e.out, if_pos h])
      clear e
      go_enter Try.func69, Try.ntmps69
      go_wp2
      go_ret
      exact ⟨ret_int E.out.symm, rfl⟩
    · have E : Hid (a / b = a.tdiv b) := Lib.hid (by rw [e.out, if_neg h])
      clear e
      go_enter Try.func69, Try.ntmps69
      go_wp2
      go_ret
      exact ⟨ret_int E.out.symm, rfl⟩
  · obtain ⟨e1, e2⟩ := floor_pos a b (by omega)
    have r3 := Int.emod_nonneg a (show b ≠ 0 by omega)
    have a3 : 0 ≤ a := by omega
    rw [e1] at q1 q2
    have q3 : 0 ≤ a / b := Int.ediv_nonneg a3 (by omega)
    have h : ¬ a % b < 0 := by omega
    clear e e1 e2 r1 r2 h0
    go_enter Try.func69, Try.ntmps69
    go_wp2
    go_ret
    exact ⟨rfl, rfl⟩

theorem q_of (a s : Int) (hv : spB a s = true) (h0 : a + s ≠ 0) : qLo s 10000 (a + s) = s * 10000 / (a + s) ∧ qHi s 10000 (a + s) = -(-(s * 10000) / (a + s)) := by
  obtain ⟨h1, h2, h3, h4⟩ := spB_of hv
  exact q_pos (a := s) (b := 10000) (c := a + s) (by omega) (by
    rw [show Int.natAbs 10000 = 10000 from rfl]
    refine Nat.le_trans (Nat.div_le_self _ _) ?_
    omega)

open Go.RowKit Go.Lib Go.Shelf
set_option linter.unusedVariables false
set_option linter.unusedSimpArgs false
attribute [local go_sem ↓] Go.wp_at_zero Go.wp_at_succ

def inB (lo hi n : Int) : Bool := decide (lo ≤ n) && decide (n ≤ hi)
def insB (lo hi : Int) (xs : List Int) : Bool := xs.all (inB lo hi)
theorem insB_snoc (lo hi : Int) (xs : List Int) (p : Int) : insB lo hi (xs ++ [p]) = (insB lo hi xs && inB lo hi p) := by simp [insB, List.all_append]
theorem insB_no {lo hi : Int} {xs : List Int} {k : Nat} {p : Int} (h : xs[k]? = some p) (hp : inB lo hi p = false) : insB lo hi xs = false := by
  rw [Bool.eq_false_iff]
  intro ha
  have := List.all_eq_true.1 ha p (List.mem_of_getElem? h)
  rw [hp] at this
  cases this
/-- the slice v reads as the numbers xs; it lies below block B -/
def NsAt (B : Nat) (w : World) (v : Value) (xs : List Int) : Prop :=
  ∃ A c, v = .slice A xs.length c ∧ (0 < xs.length → ∃ g off, A = some ⟨g, off, none⟩ ∧ g < B ∧ ∀ k z, xs[k]? = some z → w.cell? ⟨g, off + k, none⟩ = some (.int .i64 z))
theorem NsAt.below {B B' : Nat} {w w' : World} {v : Value} {xs : List Int} (h : NsAt B w v xs) (hb : Below B' w w') (hB : B ≤ B') : NsAt B w' v xs := by
  obtain ⟨A, c, rfl, h⟩ := h
  refine ⟨A, c, rfl, fun hn => ?_⟩
  obtain ⟨g, off, rfl, hg, hr⟩ := h hn
  exact ⟨g, off, rfl, hg, fun k z hz => cell_next hb (by omega) (hr k z hz)⟩
theorem NsAt.mono {B B' : Nat} {w : World} {v : Value} {xs : List Int} (h : NsAt B w v xs) (hB : B ≤ B') : NsAt B' w v xs := by
  obtain ⟨A, c, rfl, h⟩ := h
  refine ⟨A, c, rfl, fun hn => ?_⟩
  obtain ⟨g, off, rfl, hg, hr⟩ := h hn
  exact ⟨g, off, rfl, by omega, hr⟩
theorem ns_one {w : World} {g c : Nat} {x : Int} (h : w.cell? ⟨g, 0, none⟩ = some (.int .i64 x)) : NsAt (g + 1) w (.slice (some ⟨g, 0, none⟩) 1 c) [x] :=
  ⟨_, _, rfl, fun _ => ⟨g, 0, rfl, by omega, fun k z hz => by
    rcases k with _ | k
    · simp at hz; subst hz; simpa using h
    · simp at hz⟩⟩
theorem ns_two {w : World} {g c : Nat} {x y : Int} (h : w.cell? ⟨g, 0, none⟩ = some (.int .i64 x)) (h' : w.cell? ⟨g, 1, none⟩ = some (.int .i64 y)) : NsAt (g + 1) w (.slice (some ⟨g, 0, none⟩) 2 c) [x, y] :=
  ⟨_, _, rfl, fun _ => ⟨g, 0, rfl, by omega, fun k z hz => by
    rcases k with _ | _ | k
    · simp at hz; subst hz; simpa using h
    · simp at hz; subst hz; simpa using h'
    · simp at hz⟩⟩
theorem take_snocN (xs : List Int) (k : Nat) (p : Int) (h : xs[k]? = some p) : xs.take (k + 1) = xs.take k ++ [p] := by rw [List.take_add_one, h]; rfl

/-- the number of the first element that is meant, or -1 -/
def IxPost (b : Bool) (w : World) (e : Ending) (w' : World) : Prop := ∃ i : Int, e = .returned (.int .i64 i) ∧ (if b then i = -1 else 0 ≤ i ∧ i ≤ 9000000000000000000) ∧ Below w.heap.size w w'

theorem below_al2 (w : World) (o p : Obj) : Below w.heap.size w ((w.alloc o).alloc p) := ((Below.refl _ _).alloc (Nat.le_refl _) _).alloc (by simp) _

open Go.RowKit Go.Lib Go.Shelf
set_option linter.unusedVariables false
set_option linter.unusedSimpArgs false
attribute [local go_sem ↓] Go.wp_at_zero Go.wp_at_succ

theorem and_i64 (a b : Nat) (ha : a < 4611686018427387904) (hb : b < 4611686018427387904) : bits .and .i64 (a : Int) (b : Int) = ((a &&& b : Nat) : Int) := by
  have hx : a &&& b < 2 ^ 62 := Nat.and_lt_two_pow _ (by omega)
  have h1 : (BitVec.ofInt 64 (a : Int)).toNat = a := by
    rw [BitVec.ofInt_natCast, BitVec.toNat_ofNat]; exact Nat.mod_eq_of_lt (by omega)
  have h2 : (BitVec.ofInt 64 (b : Int)).toNat = b := by
    rw [BitVec.ofInt_natCast, BitVec.toNat_ofNat]; exact Nat.mod_eq_of_lt (by omega)
  show IntKind.i64.wrap ((BitVec.ofInt 64 (a : Int) &&& BitVec.ofInt 64 (b : Int)).toNat : Int) = _
  rw [BitVec.toNat_and, h1, h2]
  exact IntWalk.i64_in _ (by omega)
theorem pow_le62 (k : Nat) (hk : k ≤ 61) : 2 ^ k ≤ 2305843009213693952 := Nat.pow_le_pow_right (n := 2) (by omega) hk
theorem and_pow (a k : Nat) (ha : a < 4611686018427387904) (hk : k ≤ 61) : bits .and .i64 (a : Int) ((2 ^ k : Nat) : Int) = ((a / 2 ^ k % 2 * 2 ^ k : Nat) : Int) := by
  have e : a &&& 2 ^ k = if a.testBit k then 2 ^ k else 0 := by
    apply Nat.eq_of_testBit_eq
    intro i
    rw [Nat.testBit_and, Nat.testBit_two_pow]
    by_cases hi : k = i
    · subst hi
      cases h : a.testBit k <;> simp [Nat.testBit_two_pow]
    · cases h : a.testBit k <;> simp [Nat.testBit_two_pow, hi]
  rw [and_i64 a (2 ^ k) ha (by have := pow_le62 k hk; omega), e, Nat.testBit_eq_decide_div_mod_eq]
  rcases Nat.mod_two_eq_zero_or_one (a / 2 ^ k) with h | h <;> simp [h]
theorem half_div (b k : Nat) : b / 2 ^ k = 2 * (b / 2 ^ (k + 1)) + b / 2 ^ k % 2 := by
  rw [Nat.pow_succ, ← Nat.div_div_eq_div_mul]
  omega
theorem quo_le {q c r a B : Nat} (h : q * c + r = a * B) (hac : a ≤ c) (hc : 0 < c) : q ≤ B := by
  have h1 : q * c ≤ B * c := by
    have := Nat.mul_le_mul_right B hac
    rw [Nat.mul_comm B c]
    omega
  exact Nat.le_of_mul_le_mul_right h1 hc
def bitOf (k : Nat) : Nat := 2 ^ k / 2
theorem bitOf_succ (k : Nat) : bitOf (k + 1) = 2 ^ k := by simp [bitOf, Nat.pow_succ]
theorem bitOf_half (k : Nat) : bitOf (k + 1) / 2 = bitOf k := by rw [bitOf_succ]; rfl

set_option maxRecDepth 20000 in
set_option maxHeartbeats 1000000 in
theorem mulDiv_any (a b c : Nat) (hc : 0 < c) (hac : a ≤ c) (hcm : c ≤ 1000000000000000000) (hb : b < 4611686018427387904) (w : World) :
    Calls Try.prog 105 #[.int .i64 (a : Int), .int .i64 (b : Int), .int .i64 (c : Int)] w fun e w' => e = .returned (.int .i64 ((a * b / c : Nat) : Int)) ∧ Below w.heap.size w w' := by
  go_enter Try.func105, Try.ntmps105
  go_wp2_with fail
  go_loopw [9, 7, 8] (fun i x y wr => ∃ k q r : Nat, k ≤ 62 ∧ i = .int .i64 (bitOf k : Nat) ∧ x = .int .i64 (q : Int) ∧ y = .int .i64 (r : Int) ∧ Hid (q * c + r = a * (b / 2 ^ k)) ∧ Hid (r < c) ∧ wr = w) (fun i _ _ _ => (RowKit.intOf i).toNat)
  case atStart => exact ⟨62, 0, 0, by omega, rfl, rfl, rfl, Lib.hid (by rw [Nat.div_eq_of_lt (by omega)]; simp), Lib.hid hc, rfl⟩
  case round =>
    obtain ⟨k, q, r, hk, rfl, rfl, rfl, HE, HR, rfl⟩ := hrel
    rcases k with _ | k
    · rw [show bitOf 0 = 0 from rfl]
      have hq : Hid (q = a * b / c) := Lib.hid (by
        have h := HE.out
        rw [Nat.pow_zero, Nat.div_one] at h
        rw [← h, Nat.add_comm, Nat.add_mul_div_right _ _ hc, Nat.div_eq_of_lt HR.out, Nat.zero_add])
      clear HE HR
      go_wp2_with fail
      go_ret
      exact ⟨by first | rfl | rw [hq.out]; rfl | (rw [← hq.out]; rfl), Below.refl _ _⟩
    · have hT := pow_le62 k (by omega)
      have hT0 : 0 < 2 ^ k := Nat.two_pow_pos k
      have hA := and_pow b k hb (by omega)
      have hBk := half_div b k
      have hHalf := bitOf_half k
      have hq0 := quo_le HE.out hac hc
      have hr0 := HR.out
      have hBb : b / 2 ^ k ≤ b := Nat.div_le_self _ _
      rw [bitOf_succ] at hHalf ⊢
      obtain ⟨B, hB⟩ : ∃ B, b / 2 ^ (k + 1) = B := ⟨_, rfl⟩
      obtain ⟨d, hd⟩ : ∃ d, b / 2 ^ k % 2 = d := ⟨_, rfl⟩
      have hd2 : d = 0 ∨ d = 1 := by omega
      have HE' : q * c + r = a * B := by rw [← hB]; exact HE.out
      rw [hd] at hA hBk
      rw [hB] at hBk hq0
      rw [hBk] at hBb
      obtain ⟨T, hTe⟩ : ∃ T, 2 ^ k = T := ⟨_, rfl⟩
      rw [hTe] at hT hT0 hA hHalf ⊢
      have HBk := Lib.hid hBk
      have HH := Lib.hid hHalf
      have hw1 : IntKind.i64.wrap (2 * (q : Int)) = ((2 * q : Nat) : Int) := by rw [show (2 * (q : Int)) = ((2 * q : Nat) : Int) from by omega]; exact IntWalk.i64_in _ (by omega)
      have hw2 : IntKind.i64.wrap (2 * (r : Int)) = ((2 * r : Nat) : Int) := by rw [show (2 * (r : Int)) = ((2 * r : Nat) : Int) from by omega]; exact IntWalk.i64_in _ (by omega)
      have hw3 : IntKind.i64.wrap (((2 * r : Nat) : Int) + (a : Int)) = ((2 * r + a : Nat) : Int) := by rw [show (((2 * r : Nat) : Int) + (a : Int)) = ((2 * r + a : Nat) : Int) from by omega]; exact IntWalk.i64_in _ (by omega)
      have HN : Hid ((2 * q) * c + (2 * r + a * d) = a * (2 * B + d)) := Lib.hid (by
        rw [Nat.mul_add, Nat.mul_assoc, ← Nat.add_assoc, ← Nat.mul_add, HE', Nat.mul_left_comm])
      clear hHalf hBk HE HE' HR hTe hd hB
      rcases hd2 with rfl | rfl
      · rw [Nat.zero_mul] at hA
        rw [Nat.mul_zero, Nat.add_zero] at HN
        go_wp2_with fail
        have HN2 : Hid (2 * q * c + (2 * r) = a * (2 * B + 0)) := HN
        clear HN hA hw1 hw2 hw3
        obtain ⟨wo, hwo⟩ : ∃ wo, wo = wr := ⟨_, rfl⟩
        subst hwo
        go_loopw [7, 8] (fun x y wr => ∃ q1 r1 : Nat, x = .int .i64 (q1 : Int) ∧ y = .int .i64 (r1 : Int) ∧ Hid (q1 * c + r1 = a * (2 * B + 0)) ∧ Hid (r1 ≤ 3 * c) ∧ wr = wo) (fun _ y _ => (RowKit.intOf y).toNat)
        case atStart => exact ⟨2 * q, 2 * r, by first | rfl | go_num, by first | rfl | go_num, HN2, Lib.hid (by omega), rfl⟩
        case round =>
          obtain ⟨q1, r1, rfl, rfl, HE, HR, rfl⟩ := hrel
          have hq1 := quo_le HE.out hac hc
          have hr1 := HR.out
          by_cases hge : c ≤ r1
          · have w4 : IntKind.i64.wrap ((q1 : Int) + 1) = ((q1 + 1 : Nat) : Int) := by rw [show ((q1 : Int) + 1) = ((q1 + 1 : Nat) : Int) from by omega]; exact IntWalk.i64_in _ (by omega)
            have w5 : IntKind.i64.wrap ((r1 : Int) - (c : Int)) = ((r1 - c : Nat) : Int) := by rw [show ((r1 : Int) - (c : Int)) = ((r1 - c : Nat) : Int) from by omega]; exact IntWalk.i64_in _ (by omega)
            have HE3 : Hid ((q1 + 1) * c + (r1 - c) = a * (2 * B + 0)) := Lib.hid (by rw [Nat.succ_mul]; have := HE.out; omega)
            have HR3 : Hid (r1 - c ≤ 3 * c) := Lib.hid (by omega)
            clear HE HR hq1 hr1
            go_wp2_with fail
            go_roundw
            case measure => simp [RowKit.intOf]; omega
            exact ⟨q1 + 1, r1 - c, by first | rfl | go_num, by first | rfl | go_num, HE3, HR3, by first | rfl | trivial⟩
          · have HR3 : Hid (r1 < c) := Lib.hid (by omega)
            have HE3 : Hid (q1 * c + r1 = a * (b / 2 ^ k)) := Lib.hid (by rw [HBk.out]; exact HE.out)
            clear HE HR hq1 hr1 HN2
            go_wp2_with fail
            exact ⟨⟨k, q1, r1, by omega, by rw [← HH.out]; simp, rfl, rfl, HE3, HR3, by first | rfl | trivial⟩, by simp [RowKit.intOf]; omega⟩
      · rw [Nat.one_mul] at hA
        rw [Nat.mul_one] at HN
        have hTn : ((T : Int) == 0) = false := by simp; omega
        go_wp2_with fail
        have HN2 : Hid (2 * q * c + (2 * r + a) = a * (2 * B + 1)) := HN
        clear HN hA hw1 hw2 hw3
        obtain ⟨wo, hwo⟩ : ∃ wo, wo = wr := ⟨_, rfl⟩
        subst hwo
        go_loopw [7, 8] (fun x y wr => ∃ q1 r1 : Nat, x = .int .i64 (q1 : Int) ∧ y = .int .i64 (r1 : Int) ∧ Hid (q1 * c + r1 = a * (2 * B + 1)) ∧ Hid (r1 ≤ 3 * c) ∧ wr = wo) (fun _ y _ => (RowKit.intOf y).toNat)
        case atStart => exact ⟨2 * q, 2 * r + a, by first | rfl | go_num, by first | rfl | go_num, HN2, Lib.hid (by omega), rfl⟩
        case round =>
          obtain ⟨q1, r1, rfl, rfl, HE, HR, rfl⟩ := hrel
          have hq1 := quo_le HE.out hac hc
          have hr1 := HR.out
          by_cases hge : c ≤ r1
          · have w4 : IntKind.i64.wrap ((q1 : Int) + 1) = ((q1 + 1 : Nat) : Int) := by rw [show ((q1 : Int) + 1) = ((q1 + 1 : Nat) : Int) from by omega]; exact IntWalk.i64_in _ (by omega)
            have w5 : IntKind.i64.wrap ((r1 : Int) - (c : Int)) = ((r1 - c : Nat) : Int) := by rw [show ((r1 : Int) - (c : Int)) = ((r1 - c : Nat) : Int) from by omega]; exact IntWalk.i64_in _ (by omega)
            have HE3 : Hid ((q1 + 1) * c + (r1 - c) = a * (2 * B + 1)) := Lib.hid (by rw [Nat.succ_mul]; have := HE.out; omega)
            have HR3 : Hid (r1 - c ≤ 3 * c) := Lib.hid (by omega)
            clear HE HR hq1 hr1
            go_wp2_with fail
            go_roundw
            case measure => simp [RowKit.intOf]; omega
            exact ⟨q1 + 1, r1 - c, by first | rfl | go_num, by first | rfl | go_num, HE3, HR3, by first | rfl | trivial⟩
          · have HR3 : Hid (r1 < c) := Lib.hid (by omega)
            have HE3 : Hid (q1 * c + r1 = a * (b / 2 ^ k)) := Lib.hid (by rw [HBk.out]; exact HE.out)
            clear HE HR hq1 hr1 HN2
            go_wp2_with fail
            exact ⟨⟨k, q1, r1, by omega, by rw [← HH.out]; simp, rfl, rfl, HE3, HR3, by first | rfl | trivial⟩, by simp [RowKit.intOf]; omega⟩
end Go.Proofs.Ytclnfncdphfgjaa
