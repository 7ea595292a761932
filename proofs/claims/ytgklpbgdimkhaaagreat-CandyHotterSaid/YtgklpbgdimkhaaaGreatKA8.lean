/- Contracts: D65, C31, joined. -/
import Derived.Test.YtgklpbgdimkhaaaGreatD64
import Derived.Lib.ItoaNum
import Derived.Test.YtgklpbgdimkhaaaGreatKA7
import Derived.Test.YtgklpbgdimkhaaaGreatKA4
namespace Go.Proofs.YtgklpbgdimkhaaaGreat
open Go.RowKit Go.Lib
set_option linter.unusedVariables false
set_option linter.unusedSimpArgs false

theorem wrapU (n : Nat) : IntKind.u64.wrap (n : Int) = ((n % 18446744073709551616 : Nat) : Int) := Mul64.wrapM n
theorem wrapU_lt (n : Nat) (h : n < 18446744073709551616) : IntKind.u64.wrap (n : Int) = (n : Int) := Mul64.wrapN n h
theorem wrapU_sub (a b : Nat) (ha : a < 18446744073709551616) (hb : b < 18446744073709551616) : IntKind.u64.wrap ((a : Int) - (b : Int)) = (((a + 18446744073709551616 - b) % 18446744073709551616 : Nat) : Int) := by
  rw [IntKind.wrap_u64]; omega
theorem wrapU_mul (a b : Nat) : IntKind.u64.wrap ((a : Int) * (b : Int)) = ((a * b % 18446744073709551616 : Nat) : Int) := by rw [← Int.natCast_mul]; exact wrapU _
theorem wrapU_add (a b : Nat) : IntKind.u64.wrap ((a : Int) + (b : Int)) = (((a + b) % 18446744073709551616 : Nat) : Int) := by rw [← Int.natCast_add]; exact wrapU _

/-- one digit -/
structure Dg (Y yn1 U u1 q r A1 A2 A3 R Q : Nat) : Prop where
  fq : (U : Int) / (yn1 : Int) = (q : Int)
  fr : IntKind.u64.wrap ((U : Int) - IntKind.u64.wrap ((q : Int) * (yn1 : Int))) = (r : Int)
  bq : q ≤ 4294967297
  br : r < 4294967296
  hqr : q * yn1 + r = U
  hQ : Q = (U * 4294967296 + u1) / Y
  hQq : Q ≤ q
  bQ : Q < 4294967296
  fA1 : IntKind.u64.wrap ((U : Int) * 4294967296) = (A1 : Int)
  fA2 : IntKind.u64.wrap ((A1 : Int) + (u1 : Int)) = (A2 : Int)
  fA3 : IntKind.u64.wrap ((Q : Int) * (Y : Int)) = (A3 : Int)
  fR : IntKind.u64.wrap ((A2 : Int) - (A3 : Int)) = (R : Int)
  bR : R < Y
  hR : R = (U * 4294967296 + u1) % Y
theorem dg_of (Y yn1 yn0 U u1 : Nat) (hY : Y = yn1 * 4294967296 + yn0) (bY : Y < 18446744073709551616) (bn1 : 2147483648 ≤ yn1) (bn1' : yn1 < 4294967296) (bn0 : yn0 < 4294967296) (hU : U < Y) (hu : u1 < 4294967296) :
    ∃ q r A1 A2 A3 R Q, Dg Y yn1 U u1 q r A1 A2 A3 R Q := by
  have h1 := Nat.div_add_mod U yn1
  have h2 := Nat.mod_lt U (show 0 < yn1 by omega)
  rw [Nat.mul_comm] at h1
  have hb := dv_bound Y yn1 yn0 U hY bn1 bn0 hU
  have hf := dv_first Y yn1 yn0 U u1 hY (by omega) hu
  have hl := dv_lt Y U u1 hU hu
  have hr := dv_rest Y U u1 bY hU hu
  refine ⟨U / yn1, U % yn1, U * 4294967296 % 18446744073709551616, (U * 4294967296 % 18446744073709551616 + u1) % 18446744073709551616, (U * 4294967296 + u1) / Y * Y % 18446744073709551616, (U * 4294967296 + u1) % Y, (U * 4294967296 + u1) / Y, ?_, ?_, hb, by omega, h1, rfl, hf, hl, ?_, wrapU_add _ _, wrapU_mul _ _, ?_, Nat.mod_lt _ (by omega), rfl⟩
  · exact (Int.natCast_ediv _ _).symm
  · rw [wrapU_mul]
    generalize U % yn1 = r at *
    generalize U / yn1 * yn1 = m at *
    rw [wrapU_sub _ _ (by omega) (by omega)]
    congr 1
    omega
  · exact wrapU_mul U 4294967296
  · rw [wrapU_sub _ _ (Nat.mod_lt _ (by omega)) (Nat.mod_lt _ (by omega)), hr]

theorem or_add (a b s : Nat) (h : b < 2 ^ s) : (a * 2 ^ s) ||| b = a * 2 ^ s + b := by
  rw [Nat.mul_comm]
  exact (Nat.two_pow_add_eq_or_of_lt h a).symm

theorem two_halves (X : Nat) : X / 4294967296 * 4294967296 + X % 4294967296 = X := by omega

theorem dv_exists (h x y : Nat) (h0 : 0 < h) (hy : h < y) (hy1 : y < 18446744073709551616) (hx : x < 18446744073709551616) :
    ∃ s Y yn1 yn0 H xh U X u1 u0 q r A1 A2 A3 R q' r' C1 C2 C3 R0 Q Q0, (64 : Int) - (Lib.bitLen y : Int) = ((s : Nat) : Int) ∧ Dv h x y s Y yn1 yn0 H xh U X u1 u0 q r A1 A2 A3 R q' r' C1 C2 C3 R0 Q Q0 ∧
      Q * 4294967296 + Q0 = (h * 18446744073709551616 + x) / y ∧ R0 / 2 ^ s = (h * 18446744073709551616 + x) % y := by
  obtain ⟨L1, L2, L3⟩ := bitLenAux_bounds 64 y (by omega) (by omega)
  have e : Lib.bitLen y = bitLenAux 64 y := rfl
  rw [e]
  generalize bitLenAux 64 y = L at *
  have hL : L ≤ 64 := by
    rcases Nat.lt_or_ge 64 L with h1 | h1
    · exfalso
      have : 2 ^ 64 ≤ 2 ^ (L - 1) := Nat.pow_le_pow_right (by omega) (by omega)
      omega
    · exact h1
  obtain ⟨s, rfl⟩ : ∃ s, L = 64 - s := ⟨64 - L, by omega⟩
  have hs : s ≤ 63 := by omega
  have hp0 : 0 < 2 ^ s := Nat.pos_of_ne_zero (by simp)
  have hpp : 2 ^ (64 - s) * 2 ^ s = 18446744073709551616 := by rw [← Nat.pow_add, show 64 - s + s = 64 from by omega]
  have hpq : 2 ^ (64 - s - 1) * 2 ^ s = 9223372036854775808 := by rw [← Nat.pow_add, show 64 - s - 1 + s = 63 from by omega]
  have bY : y * 2 ^ s < 18446744073709551616 := by rw [← hpp]; exact Nat.mul_lt_mul_of_pos_right L3 hp0
  have bY2 : 9223372036854775808 ≤ y * 2 ^ s := by rw [← hpq]; exact Nat.mul_le_mul_right _ L2
  have hhY : h * 2 ^ s + 2 ^ s ≤ y * 2 ^ s := by
    have : (h + 1) * 2 ^ s ≤ y * 2 ^ s := Nat.mul_le_mul_right _ (by omega)
    rw [Nat.add_mul, Nat.one_mul] at this
    exact this
  have hxh : x / 2 ^ (64 - s) < 2 ^ s := Nat.div_lt_of_lt_mul (by rw [hpp]; exact hx)
  have hxs : x * 2 ^ s / 18446744073709551616 = x / 2 ^ (64 - s) := by rw [← hpp]; exact Nat.mul_div_mul_right _ _ hp0
  have hXm := Nat.div_add_mod (x * 2 ^ s) 18446744073709551616
  rw [hxs] at hXm
  have hXl := Nat.mod_lt (x * 2 ^ s) (show 0 < 18446744073709551616 by omega)
  have hor := or_add h (x / 2 ^ (64 - s)) s hxh
  have hpy : ((y : Int) * 2 ^ s) = ((y * 2 ^ s : Nat) : Int) := by rw [Int.natCast_mul, Int.natCast_pow]; rfl
  have hph : ((h : Int) * 2 ^ s) = ((h * 2 ^ s : Nat) : Int) := by rw [Int.natCast_mul, Int.natCast_pow]; rfl
  have hpx : ((x : Int) * 2 ^ s) = ((x * 2 ^ s : Nat) : Int) := by rw [Int.natCast_mul, Int.natCast_pow]; rfl
  have hpd : ((x : Int) / 2 ^ (64 - s)) = ((x / 2 ^ (64 - s) : Nat) : Int) := by rw [Int.natCast_ediv, Int.natCast_pow]; rfl
  have hsum : (h * 2 ^ s + x / 2 ^ (64 - s)) * 18446744073709551616 + x * 2 ^ s % 18446744073709551616 = (h * 18446744073709551616 + x) * 2 ^ s := by
    rw [Nat.add_mul (h * 18446744073709551616) x, Nat.mul_right_comm h, Nat.add_mul]
    omega
  have hsh := dv_shift (h * 18446744073709551616 + x) y s
  rw [← hsum] at hsh
  generalize x * 2 ^ s % 18446744073709551616 = X at *
  generalize x / 2 ^ (64 - s) = xh at *
  obtain ⟨Y, hY⟩ : ∃ Y, y * 2 ^ s = Y := ⟨_, rfl⟩
  obtain ⟨Hh, hH⟩ : ∃ Hh, h * 2 ^ s = Hh := ⟨_, rfl⟩
  rw [hY] at bY bY2 hhY hpy hsh
  rw [hH] at hhY hph hor hsh
  have hUY : Hh + xh < Y := by omega
  have hu0 : X % 4294967296 < 4294967296 := Nat.mod_lt _ (by omega)
  have hu1 : X / 4294967296 < 4294967296 := by omega
  have hYd : Y = Y / 4294967296 * 4294967296 + Y % 4294967296 := by omega
  obtain ⟨q, r, A1, A2, A3, R, Q, d1⟩ := dg_of Y (Y / 4294967296) (Y % 4294967296) (Hh + xh) (X / 4294967296) hYd bY (by omega) (by omega) (Nat.mod_lt _ (by omega)) hUY hu1
  obtain ⟨q', r', C1, C2, C3, R0, Q0, d2⟩ := dg_of Y (Y / 4294967296) (Y % 4294967296) R (X % 4294967296) hYd bY (by omega) (by omega) (Nat.mod_lt _ (by omega)) d1.bR hu0
  have htwo := dv_two Y (Hh + xh) (X / 4294967296) (X % 4294967296) (by omega)
  rw [← d1.hQ, ← d1.hR, ← d2.hQ, ← d2.hR, Nat.add_assoc, two_halves] at htwo
  have hbR0 := d2.bR
  refine ⟨s, Y, Y / 4294967296, Y % 4294967296, Hh, xh, Hh + xh, X, X / 4294967296, X % 4294967296, q, r, A1, A2, A3, R, q', r', C1, C2, C3, R0, Q, Q0, by omega,
    ⟨hy1, hs, ?_, ?_, ?_, ?_, hpd, ?_, ?_, ?_, ?_, d1.fq, d1.fr, bY, by omega, by omega, Nat.mod_lt _ (by omega), by omega, by omega, hu1, hu0, d1.bq, d1.br, d1.hqr, d1.hQ, hYd, d1.hQq, d1.bQ, d1.fA1, d1.fA2, d1.fA3, d1.fR, d1.bR, d2.fq, d2.fr, d2.bq, d2.br, d2.hqr, d2.hQ, d2.hQq, d2.bQ, d2.fA1, d2.fA2, d2.fA3, d2.fR, by omega⟩, ?_, ?_⟩
  · rw [hpy, wrapU_lt _ bY]
  · exact (Int.natCast_ediv _ _).symm
  · exact Mul64.maskN Y bY
  · rw [hph, wrapU_lt _ (by omega)]
  · rw [bits_or_u64_nat _ _ (by omega) (by omega), hor]
  · rw [hpx, wrapU]
    congr 1
    omega
  · exact (Int.natCast_ediv _ _).symm
  · exact Mul64.maskN X (by omega)
  · rw [htwo.1, hsh.1]
  · rw [htwo.2, hsh.2]

theorem div64_any (h x y : Nat) (hy : h < y) (hy1 : y < 18446744073709551616) (hx : x < 18446744073709551616) (w : World) :
    Calls Tryz.prog 151 #[.int .u64 h, .int .u64 x, .int .u64 y] w fun e w' => e = .returned (.tuple #[.int .u64 (((h * 18446744073709551616 + x) / y : Nat) : Int), .int .u64 (((h * 18446744073709551616 + x) % y : Nat) : Int)]) ∧ ∃ n, w' = w.drewN n := by
  rcases Nat.eq_zero_or_pos h with rfl | h0
  · have := div64_lo x y hx (by omega) hy1 w
    rw [Nat.zero_mul, Nat.zero_add]
    exact this
  · obtain ⟨s, Y, yn1, yn0, H, xh, U, X, u1, u0, q, r, A1, A2, A3, R, q', r', C1, C2, C3, R0, Q, Q0, hs, D, e1, e2⟩ := dv_exists h x y h0 hy hy1 hx
    refine (div64_core (Lib.hid hs) D h0 hy hx w).mono ?_
    rintro e w' ⟨rfl, rfl⟩
    rw [e1, e2]
    exact ⟨rfl, 0, rfl⟩

theorem two_words (p : Nat) : p / 18446744073709551616 * 18446744073709551616 + p % 18446744073709551616 = p := by omega

set_option maxHeartbeats 1000000 in
theorem divide_any (a b c : Int) (ha : I64 a) (hb : I64 b) (hc : I64 c) (hc0 : c ≠ 0) : Divides a b c := fun w => by
  by_cases hs : a.natAbs * b.natAbs < 18446744073709551616
  · exact divide_small a b c ha hb hc hc0 hs w
  · obtain ⟨a1, a2⟩ := ha
    obtain ⟨b1, b2⟩ := hb
    obtain ⟨c1, c2⟩ := hc
    obtain ⟨y, hy⟩ : ∃ y, c.natAbs = y := ⟨_, rfl⟩
    have eW := qW_of a b c _ rfl
    have eR := qR_of a b c _ rfl
    rw [hy] at eW eR
    have hA1 : a.natAbs ≤ 9223372036854775808 := by omega
    have hB1 : b.natAbs ≤ 9223372036854775808 := by omega
    have y0 : 0 < y := by omega
    have y1 : y ≤ 9223372036854775808 := by omega
    have hm := mul64_any a.natAbs b.natAbs (by omega) (by omega)
    have hpb : a.natAbs * b.natAbs ≤ 9223372036854775808 * 9223372036854775808 := Nat.mul_le_mul hA1 hB1
    have hyi : (0 : Int) < (y : Int) := by omega
    have HYC := Lib.hid hy
    have HSC : Hid (∀ w : World, Calls Tryz.prog 150 #[.int .i64 c] w fun e w' => e = .returned (.int .u64 (y : Int)) ∧ w = w') := Lib.hid (by rw [← hy]; exact size_any c c1 c2)
    clear hy hc0 hA1 hB1
    obtain ⟨p, hp⟩ : ∃ p, a.natAbs * b.natAbs = p := ⟨_, rfl⟩
    rw [hp] at hm eW eR hs hpb
    have hdm := two_words p
    obtain ⟨hi, hhi⟩ : ∃ hi, p / 18446744073709551616 = hi := ⟨_, rfl⟩
    obtain ⟨lo, hlo⟩ : ∃ lo, p % 18446744073709551616 = lo := ⟨_, rfl⟩
    have hlo1 : lo < 18446744073709551616 := by rw [← hlo]; exact Nat.mod_lt _ (by omega)
    rw [hhi, hlo] at hm hdm
    have HM := Lib.hid hm
    clear hm hhi hlo hp
    by_cases hge : (y : Int) ≤ (hi : Int)
    · have hbig : 1000000000000000000 < p / y := by
        have : 18446744073709551616 ≤ p / y := (Nat.le_div_iff_mul_le y0).2 (by
          have := Nat.mul_le_mul_left 18446744073709551616 (show y ≤ hi by omega)
          omega)
        omega
      rw [if_pos hbig] at eW eR
      have EW := Lib.hid eW
      have ER := Lib.hid eR
      clear eW eR hbig hdm
      go_enter Tryz.func133, Tryz.ntmps133
      go_wp2_with fail
      go_quiet ((first | (go_at_call 150; exact quiet_left (size_any _ (by assumption) (by assumption) _)) | (go_at_call 149; exact quiet_left (HM.out _))))
      go_wp2_with fail
      refine (HSC.out _).mono ?_
      rintro e w1 ⟨rfl, rfl⟩
      go_wp2
      go_ret2
      exact ⟨ret_ints2 (by rw [EW.out]; rfl) (by rw [ER.out]; rfl), below_drewN ((Below.refl _ _).alloc (Nat.le_refl _) _) _⟩
    · have hlt : hi < y := by omega
      have HD := Lib.hid (div64_any hi lo y hlt (by omega) hlo1)
      rw [hdm] at HD
      have hql : p / y < 18446744073709551616 := Nat.div_lt_of_lt_mul (by
        have := Nat.mul_le_mul_left 18446744073709551616 (show hi + 1 ≤ y by omega)
        rw [Nat.mul_comm y]
        omega)
      have hrl : p % y < y := Nat.mod_lt _ y0
      obtain ⟨q, hq⟩ : ∃ q, p / y = q := ⟨_, rfl⟩
      obtain ⟨r, hr⟩ : ∃ r, p % y = r := ⟨_, rfl⟩
      rw [hq] at HD eW eR hql
      rw [hr] at HD eR hrl
      have EW := Lib.hid eW
      have ER := Lib.hid eR
      clear eW eR hq hr hdm hpb
      by_cases hg : (1000000000000000000 : Int) < (q : Int)
      all_goals
        go_enter Tryz.func133, Tryz.ntmps133
        go_wp2_with fail
        go_quiet ((first | (go_at_call 150; exact quiet_left (size_any _ (by assumption) (by assumption) _)) | (go_at_call 149; exact quiet_left (HM.out _))))
        go_wp2_with fail
        refine (HSC.out _).mono ?_
        rintro e w1 ⟨rfl, rfl⟩
        go_wp2_with fail
        refine (HD.out _).mono ?_
        rintro e w1 ⟨rfl, n, rfl⟩
        go_wp2
        go_ret2
        refine ⟨ret_ints2 ?_ ?_, below_drewN ((Below.refl _ _).alloc (Nat.le_refl _) _) _⟩
        · rw [EW.out]
          by_cases h : 1000000000000000000 < q
          · (rw [if_pos h]; try omega)
          · (rw [if_neg h]; try omega)
        · rw [ER.out]
          by_cases h : 1000000000000000000 < q
          · (rw [if_pos h]; try omega)
          · (rw [if_neg h]; try omega)

open Go.RowKit Go.Lib Go.Shelf
set_option linter.unusedVariables false
set_option linter.unusedSimpArgs false
attribute [local go_sem ↓] Go.wp_at_zero Go.wp_at_succ

set_option maxRecDepth 20000 in
set_option maxHeartbeats 2000000 in
theorem places_flat (ax ay bx yl yh : Int) (h1 : -1000000000 ≤ ax ∧ ax ≤ 1000000000) (h2 : -1000000000 ≤ bx ∧ bx ≤ 1000000000) (w : World) :
    Calls Tryz.prog 135 #[.agg #[.int .i64 ax, .int .i64 ay], .agg #[.int .i64 bx, .int .i64 ay], .agg #[.int .i64 yl, .int .i64 yh]] w fun e w' =>
      e = .returned (.tuple #[.agg #[.int .i64 ax, .int .i64 bx], .bool (decide (yl ≤ ay) && decide (ay ≤ yh))]) ∧ Below w.heap.size w w' := by
  have hw1 : IntKind.i64.wrap (ay - ay) = 0 := by rw [show ay - ay = 0 from by omega]; exact IntWalk.i64_in _ (by omega)
  have hw2 : IntKind.i64.wrap (bx - ax) = bx - ax := IntWalk.i64_in _ (by omega)
  obtain ⟨a, ha⟩ : ∃ a, decide (yl ≤ ay) = a := ⟨_, rfl⟩
  obtain ⟨b, hb⟩ : ∃ b, decide (ay ≤ yh) = b := ⟨_, rfl⟩
  rw [ha, hb]
  cases a <;> cases b
  all_goals
    go_enter Tryz.func135, Tryz.ntmps135
    go_wp2_with fail
    go_quiet (fail)
    go_wp2_with fail
    go_region
    all_goals
      go_wp2_with fail
      refine bodyPost_ret (res_places (g := w.heap.size + 1 + 1 + 1) (by rfl) (by rfl) ?_ ?_) rfl ⟨rfl, ?_⟩
      · simp [go_sem]
      · simp [go_sem]
      repeat (first | with_reducible exact Below.refl _ _ | with_reducible refine Below.drew ?_ | with_reducible refine below_drewN ?_ _ | (with_reducible refine Below.alloc ?_ ?_ _; rotate_left 1; focus (simp [go_sem] <;> omega)) | (with_reducible refine Below.setCell ?_ ?_ _; rotate_left 1; focus (simp <;> omega)))

theorem plK_at {xs : List (Int × Int)} (ht : TabOk xs) (yl yh : Int) (hy : vrB yl yh = true) : PlacesAt xs yl yh (plK xs yl yh) := by
  intro k p q hp hq
  rw [plK_of hp hq]
  have hpq := ht.2.2.2 k (k + 1) p q (by omega) hp hq
  have hr := ht.2.2.1 p (List.mem_of_getElem? hp)
  have hs := ht.2.2.1 q (List.mem_of_getElem? hq)
  obtain ⟨r1, r2, r3, r4⟩ := rowB_of hr
  obtain ⟨s1, s2, s3, s4⟩ := rowB_of hs
  obtain ⟨y1, y2, y3⟩ := vrB_of hy
  refine ⟨fun h => ?_, fun W => ?_⟩
  · have := plP_hi p q yl yh
    have := plP_lo p q yl yh h (by omega)
    omega
  · by_cases h0 : q.2 - p.2 = 0
    · unfold plP
      rw [if_pos h0]
      rw [show q.2 = p.2 from by omega]
      exact places_flat p.1 p.2 q.1 yl yh ⟨r1, r2⟩ ⟨s1, s2⟩ W
    · by_cases hn : q.2 - p.2 < 0
      · unfold plP
        rw [if_neg h0, if_pos hn]
        have b1 := q_bd (yh - p.2) (q.1 - p.1) (q.2 - p.2)
        have b2 := q_bd (yl - p.2) (q.1 - p.1) (q.2 - p.2)
        exact places_slope p.1 p.2 q.1 q.2 yl yh yh yl _ _ hr hs hy h0 (.inl ⟨hn, rfl, rfl⟩) rfl rfl (divide_any _ _ _ ⟨by omega, by omega⟩ ⟨by omega, by omega⟩ ⟨by omega, by omega⟩ h0) (divide_any _ _ _ ⟨by omega, by omega⟩ ⟨by omega, by omega⟩ ⟨by omega, by omega⟩ h0) (by omega) (by omega) W
      · unfold plP
        rw [if_neg h0, if_neg hn]
        have b1 := q_bd (yl - p.2) (q.1 - p.1) (q.2 - p.2)
        have b2 := q_bd (yh - p.2) (q.1 - p.1) (q.2 - p.2)
        exact places_slope p.1 p.2 q.1 q.2 yl yh yl yh _ _ hr hs hy h0 (.inr ⟨hn, rfl, rfl⟩) rfl rfl (divide_any _ _ _ ⟨by omega, by omega⟩ ⟨by omega, by omega⟩ ⟨by omega, by omega⟩ h0) (divide_any _ _ _ ⟨by omega, by omega⟩ ⟨by omega, by omega⟩ ⟨by omega, by omega⟩ h0) (by omega) (by omega) W

/-- the error of Where, and what it returns -/
def whE (xs : List (Int × Int)) (yl yh : Int) : Int := if tabE xs = 0 then (if vrB yl yh = true then 0 else 2) else tabE xs
def whR (xs : List (Int × Int)) (yl yh : Int) : List (Int × Int) := if whE xs yl yh = 0 then whV xs yl yh else []
def WhPost (w : World) (ys : List (Int × Int)) (err : Int) (e : Ending) (w' : World) : Prop :=
  ∃ v, e = .returned (.tuple #[v, .int .i64 err]) ∧ w'.ownsRow (w.heap.size + 1) 24 2 v ys.length (flat ys) ∧ Below w.heap.size w w'
set_option maxRecDepth 20000 in
set_option maxHeartbeats 2000000 in
theorem where_any (v : Value) (xs : List (Int × Int)) (yl yh : Int) (w : World) (hv : SetAt w.heap.size w v xs) :
    Calls Tryz.prog 113 #[v, .agg #[.int .i64 yl, .int .i64 yh]] w (WhPost w (whR xs yl yh) (whE xs yl yh)) := by
  have c1 := Lib.hid (fun (W : World) (h : Below w.heap.size w W) => checkTable_any v xs W ((hv.below h (Nat.le_refl _)).mono h.size))
  by_cases ht : tabE xs = 0
  · by_cases hy : vrB yl yh = true
    · have hT := tabOk_of ht
      have e1 : whE xs yl yh = 0 := by unfold whE; rw [if_pos ht, if_pos hy]
      have e2 : whR xs yl yh = whV xs yl yh := by unfold whR; rw [if_pos e1]
      obtain ⟨A, c, rfl, h⟩ := hv
      obtain ⟨g, off, rfl, hg, hr⟩ := h (by have := hT.1; omega)
      rw [e1, e2]
      refine (where_ok xs yl yh (plK xs yl yh) g off c (plK_at hT yl yh hy) ht hT.1 hT.2.1 hy w hg hr).mono ?_
      rintro e w' ⟨u, rfl, h1, h2⟩
      exact ⟨u, rfl, h1, h2⟩
    · have e1 : whE xs yl yh = 2 := by unfold whE; rw [if_pos ht, if_neg hy]
      have e2 : whR xs yl yh = [] := by unfold whR; rw [e1]; rfl
      rw [e1, e2]
      rw [Bool.not_eq_true] at hy
      have c2 := Lib.hid (validRange_any yl yh)
      rw [hy] at c2
      rw [ht] at c1
      obtain ⟨A, c, rfl, _⟩ := hv
      generalize xs.length = n at *
      clear ht hy e1 e2
      go_enter Tryz.func113, Tryz.ntmps113
      go_wp2_with fail
      refine (c1.out _ ((Below.refl _ _).alloc (Nat.le_refl _) _)).mono ?_
      rintro e W1 ⟨rfl, hb⟩
      have a0 := cell_next hb (b := w.heap.size) (o := 0) (by simp <;> omega) (v := some (.int .i64 yl)) (by simp [go_sem])
      have a1 := cell_next hb (b := w.heap.size) (o := 1) (by simp <;> omega) (v := some (.int .i64 yh)) (by simp [go_sem])
      have hB := below1 hb
      clear hb
      go_wp2_with fail
      refine (c2.out _).mono ?_
      rintro e W2 ⟨rfl, hb⟩
      replace hB := hB.trans (hb.mono hB.size)
      clear hb a0 a1
      go_wp2_with fail
      go_ret2
      exact ⟨_, rfl, World.ownsRow_nil _ _ _ _, hB⟩
  · have e1 : whE xs yl yh = tabE xs := by unfold whE; rw [if_neg ht]
    have e2 : whR xs yl yh = [] := by unfold whR; rw [if_neg (by rw [e1]; exact ht)]
    rw [e1, e2]
    have hne : (tabE xs != 0) = true := by simpa using ht
    obtain ⟨A, c, rfl, _⟩ := hv
    generalize tabE xs = s at *
    generalize xs.length = n at *
    clear ht e1 e2
    go_enter Tryz.func113, Tryz.ntmps113
    go_wp2_with fail
    refine (c1.out _ ((Below.refl _ _).alloc (Nat.le_refl _) _)).mono ?_
    rintro e W1 ⟨rfl, hb⟩
    have hB := below1 hb
    clear hb
    go_wp2_with fail
    go_ret2
    exact ⟨_, rfl, World.ownsRow_nil _ _ _ _, hB⟩
end Go.Proofs.YtgklpbgdimkhaaaGreat
