/- Contracts: U26, U27, U28, U29, U30, joined. -/
import Derived.Test.YtbmjkmepjggkfaaJ11
import Derived.Lib.RabinKarpLaws
import Derived.Test.YtbmjkmepjggkfaaRI
import Derived.Test.YtbmjkmepjggkfaaU17
import Derived.Test.YtbmjkmepjggkfaaJ12
namespace Go.Proofs.Ytbmjkmepjggkfaa
open Go.RowKit Go.Lib Go.Shelf
set_option linter.unusedVariables false
set_option linter.unusedSimpArgs false
attribute [local go_sem ↓] Go.wp_at_zero Go.wp_at_succ

theorem and_i64 (a b : Nat) (ha : a < 4611686018427387904) (hb : b < 4611686018427387904) : bits .and .i64 (a : Int) (b : Int) = ((a &&& b : Nat) : Int) := by
  have hx : a &&& b < 2 ^ 62 := Nat.and_lt_two_pow _ (by omega)
  have h1 : (BitVec.ofInt 64 (a : Int)).toNat = a := by
    rw [BitVec.ofInt_natCast, BitVec.toNat_ofNat]; exact Nat.mod_eq_of_lt (by omega)
  have h2 : (BitVec.ofInt 64 (b : Int)).toNat = b := by
    rw [BitVec.ofInt_natCast, BitVec.toNat_ofNat]; exact Nat.mod_eq_of_lt (by omega)
  show IntKind.i64.wrap ((BitVec.ofInt 64 (a : Int) &&& BitVec.ofInt 64 (b : Int)).toNat : Int) = _
  rw [BitVec.toNat_and, h1, h2]
  exact IntWalk.i64_in _ (by omega)
theorem pow_le62 (k : Nat) (hk : k ≤ 61) : 2 ^ k ≤ 2305843009213693952 := Nat.pow_le_pow_right (n := 2) (by omega) hk
theorem and_pow (a k : Nat) (ha : a < 4611686018427387904) (hk : k ≤ 61) : bits .and .i64 (a : Int) ((2 ^ k : Nat) : Int) = ((a / 2 ^ k % 2 * 2 ^ k : Nat) : Int) := by
  have e : a &&& 2 ^ k = if a.testBit k then 2 ^ k else 0 := by
    apply Nat.eq_of_testBit_eq
    intro i
    rw [Nat.testBit_and, Nat.testBit_two_pow]
    by_cases hi : k = i
    · subst hi
      cases h : a.testBit k <;> simp [Nat.testBit_two_pow]
    · cases h : a.testBit k <;> simp [Nat.testBit_two_pow, hi]
  rw [and_i64 a (2 ^ k) ha (by have := pow_le62 k hk; omega), e, Nat.testBit_eq_decide_div_mod_eq]
  rcases Nat.mod_two_eq_zero_or_one (a / 2 ^ k) with h | h <;> simp [h]
theorem half_div (b k : Nat) : b / 2 ^ k = 2 * (b / 2 ^ (k + 1)) + b / 2 ^ k % 2 := by
  rw [Nat.pow_succ, ← Nat.div_div_eq_div_mul]
  omega
theorem quo_le {q c r a B : Nat} (h : q * c + r = a * B) (hac : a ≤ c) (hc : 0 < c) : q ≤ B := by
  have h1 : q * c ≤ B * c := by
    have := Nat.mul_le_mul_right B hac
    rw [Nat.mul_comm B c]
    omega
  exact Nat.le_of_mul_le_mul_right h1 hc
def bitOf (k : Nat) : Nat := 2 ^ k / 2
theorem bitOf_succ (k : Nat) : bitOf (k + 1) = 2 ^ k := by simp [bitOf, Nat.pow_succ]
theorem bitOf_half (k : Nat) : bitOf (k + 1) / 2 = bitOf k := by rw [bitOf_succ]; rfl

set_option maxRecDepth 20000 in
set_option maxHeartbeats 1000000 in
theorem mulDiv_any (a b c : Nat) (hc : 0 < c) (hac : a ≤ c) (hcm : c ≤ 1000000000000000000) (hb : b < 4611686018427387904) (w : World) :
    Calls Try.prog 99 #[.int .i64 (a : Int), .int .i64 (b : Int), .int .i64 (c : Int)] w fun e w' => e = .returned (.int .i64 ((a * b / c : Nat) : Int)) ∧ Below w.heap.size w w' := by
  go_enter Try.func99, Try.ntmps99
  go_wp2_with fail
  go_loopw [9, 7, 8] (fun i x y wr => ∃ k q r : Nat, k ≤ 62 ∧ i = .int .i64 (bitOf k : Nat) ∧ x = .int .i64 (q : Int) ∧ y = .int .i64 (r : Int) ∧ Hid (q * c + r = a * (b / 2 ^ k)) ∧ Hid (r < c) ∧ wr = w) (fun i _ _ _ => (RowKit.intOf i).toNat)
  case atStart => exact ⟨62, 0, 0, by omega, rfl, rfl, rfl, Lib.hid (by rw [Nat.div_eq_of_lt (by omega)]; simp), Lib.hid hc, rfl⟩
  case round =>
    obtain ⟨k, q, r, hk, rfl, rfl, rfl, HE, HR, rfl⟩ := hrel
    rcases k with _ | k
    · rw [show bitOf 0 = 0 from rfl]
      have hq : Hid (q = a * b / c) := Lib.hid (by
        have h := HE.out
        rw [Nat.pow_zero, Nat.div_one] at h
        rw [← h, Nat.add_comm, Nat.add_mul_div_right _ _ hc, Nat.div_eq_of_lt HR.out, Nat.zero_add])
      clear HE HR
      go_wp2_with fail
      go_ret
      exact ⟨by first | rfl | rw [hq.out]; rfl | (rw [← hq.out]; rfl), Below.refl _ _⟩
    · have hT := pow_le62 k (by omega)
      have hT0 : 0 < 2 ^ k := Nat.two_pow_pos k
      have hA := and_pow b k hb (by omega)
      have hBk := half_div b k
      have hHalf := bitOf_half k
      have hq0 := quo_le HE.out hac hc
      have hr0 := HR.out
      have hBb : b / 2 ^ k ≤ b := Nat.div_le_self _ _
      rw [bitOf_succ] at hHalf ⊢
      obtain ⟨B, hB⟩ : ∃ B, b / 2 ^ (k + 1) = B := ⟨_, rfl⟩
      obtain ⟨d, hd⟩ : ∃ d, b / 2 ^ k % 2 = d := ⟨_, rfl⟩
      have hd2 : d = 0 ∨ d = 1 := by omega
      have HE' : q * c + r = a * B := by rw [← hB]; exact HE.out
      rw [hd] at hA hBk
      rw [hB] at hBk hq0
      rw [hBk] at hBb
      obtain ⟨T, hTe⟩ : ∃ T, 2 ^ k = T := ⟨_, rfl⟩
      rw [hTe] at hT hT0 hA hHalf ⊢
      have HBk := Lib.hid hBk
      have HH := Lib.hid hHalf
      have hw1 : IntKind.i64.wrap (2 * (q : Int)) = ((2 * q : Nat) : Int) := by rw [show (2 * (q : Int)) = ((2 * q : Nat) : Int) from by omega]; exact IntWalk.i64_in _ (by omega)
      have hw2 : IntKind.i64.wrap (2 * (r : Int)) = ((2 * r : Nat) : Int) := by rw [show (2 * (r : Int)) = ((2 * r : Nat) : Int) from by omega]; exact IntWalk.i64_in _ (by omega)
      have hw3 : IntKind.i64.wrap (((2 * r : Nat) : Int) + (a : Int)) = ((2 * r + a : Nat) : Int) := by rw [show (((2 * r : Nat) : Int) + (a : Int)) = ((2 * r + a : Nat) : Int) from by omega]; exact IntWalk.i64_in _ (by omega)
      have HN : Hid ((2 * q) * c + (2 * r + a * d) = a * (2 * B + d)) := Lib.hid (by
        rw [Nat.mul_add, Nat.mul_assoc, ← Nat.add_assoc, ← Nat.mul_add, HE', Nat.mul_left_comm])
      clear hHalf hBk HE HE' HR hTe hd hB
      rcases hd2 with rfl | rfl
      · rw [Nat.zero_mul] at hA
        rw [Nat.mul_zero, Nat.add_zero] at HN
        go_wp2_with fail
        have HN2 : Hid (2 * q * c + (2 * r) = a * (2 * B + 0)) := HN
        clear HN hA hw1 hw2 hw3
        obtain ⟨wo, hwo⟩ : ∃ wo, wo = wr := ⟨_, rfl⟩
        subst hwo
        go_loopw [7, 8] (fun x y wr => ∃ q1 r1 : Nat, x = .int .i64 (q1 : Int) ∧ y = .int .i64 (r1 : Int) ∧ Hid (q1 * c + r1 = a * (2 * B + 0)) ∧ Hid (r1 ≤ 3 * c) ∧ wr = wo) (fun _ y _ => (RowKit.intOf y).toNat)
        case atStart => exact ⟨2 * q, 2 * r, by first | rfl | go_num, by first | rfl | go_num, HN2, Lib.hid (by omega), rfl⟩
        case round =>
          obtain ⟨q1, r1, rfl, rfl, HE, HR, rfl⟩ := hrel
          have hq1 := quo_le HE.out hac hc
          have hr1 := HR.out
          by_cases hge : c ≤ r1
          · have w4 : IntKind.i64.wrap ((q1 : Int) + 1) = ((q1 + 1 : Nat) : Int) := by rw [show ((q1 : Int) + 1) = ((q1 + 1 : Nat) : Int) from by omega]; exact IntWalk.i64_in _ (by omega)
            have w5 : IntKind.i64.wrap ((r1 : Int) - (c : Int)) = ((r1 - c : Nat) : Int) := by rw [show ((r1 : Int) - (c : Int)) = ((r1 - c : Nat) : Int) from by omega]; exact IntWalk.i64_in _ (by omega)
            have HE3 : Hid ((q1 + 1) * c + (r1 - c) = a * (2 * B + 0)) := Lib.hid (by rw [Nat.succ_mul]; have := HE.out; omega)
            have HR3 : Hid (r1 - c ≤ 3 * c) := Lib.hid (by omega)
            clear HE HR hq1 hr1
            go_wp2_with fail
            go_roundw
            case measure => simp [RowKit.intOf]; omega
            exact ⟨q1 + 1, r1 - c, by first | rfl | go_num, by first | rfl | go_num, HE3, HR3, by first | rfl | trivial⟩
          · have HR3 : Hid (r1 < c) := Lib.hid (by omega)
            have HE3 : Hid (q1 * c + r1 = a * (b / 2 ^ k)) := Lib.hid (by rw [HBk.out]; exact HE.out)
            clear HE HR hq1 hr1 HN2
            go_wp2_with fail
            exact ⟨⟨k, q1, r1, by omega, by rw [← HH.out]; simp, rfl, rfl, HE3, HR3, by first | rfl | trivial⟩, by simp [RowKit.intOf]; omega⟩
      · rw [Nat.one_mul] at hA
        rw [Nat.mul_one] at HN
        have hTn : ((T : Int) == 0) = false := by simp; omega
        go_wp2_with fail
        have HN2 : Hid (2 * q * c + (2 * r + a) = a * (2 * B + 1)) := HN
        clear HN hA hw1 hw2 hw3
        obtain ⟨wo, hwo⟩ : ∃ wo, wo = wr := ⟨_, rfl⟩
        subst hwo
        go_loopw [7, 8] (fun x y wr => ∃ q1 r1 : Nat, x = .int .i64 (q1 : Int) ∧ y = .int .i64 (r1 : Int) ∧ Hid (q1 * c + r1 = a * (2 * B + 1)) ∧ Hid (r1 ≤ 3 * c) ∧ wr = wo) (fun _ y _ => (RowKit.intOf y).toNat)
        case atStart => exact ⟨2 * q, 2 * r + a, by first | rfl | go_num, by first | rfl | go_num, HN2, Lib.hid (by omega), rfl⟩
        case round =>
          obtain ⟨q1, r1, rfl, rfl, HE, HR, rfl⟩ := hrel
          have hq1 := quo_le HE.out hac hc
          have hr1 := HR.out
          by_cases hge : c ≤ r1
          · have w4 : IntKind.i64.wrap ((q1 : Int) + 1) = ((q1 + 1 : Nat) : Int) := by rw [show ((q1 : Int) + 1) = ((q1 + 1 : Nat) : Int) from by omega]; exact IntWalk.i64_in _ (by omega)
            have w5 : IntKind.i64.wrap ((r1 : Int) - (c : Int)) = ((r1 - c : Nat) : Int) := by rw [show ((r1 : Int) - (c : Int)) = ((r1 - c : Nat) : Int) from by omega]; exact IntWalk.i64_in _ (by omega)
            have HE3 : Hid ((q1 + 1) * c + (r1 - c) = a * (2 * B + 1)) := Lib.hid (by rw [Nat.succ_mul]; have := HE.out; omega)
            have HR3 : Hid (r1 - c ≤ 3 * c) := Lib.hid (by omega)
            clear HE HR hq1 hr1
            go_wp2_with fail
            go_roundw
            case measure => simp [RowKit.intOf]; omega
            exact ⟨q1 + 1, r1 - c, by first | rfl | go_num, by first | rfl | go_num, HE3, HR3, by first | rfl | trivial⟩
          · have HR3 : Hid (r1 < c) := Lib.hid (by omega)
            have HE3 : Hid (q1 * c + r1 = a * (b / 2 ^ k)) := Lib.hid (by rw [HBk.out]; exact HE.out)
            clear HE HR hq1 hr1 HN2
            go_wp2_with fail
            exact ⟨⟨k, q1, r1, by omega, by rw [← HH.out]; simp, rfl, rfl, HE3, HR3, by first | rfl | trivial⟩, by simp [RowKit.intOf]; omega⟩

open Go.RowKit Go.Lib Go.Shelf
set_option linter.unusedVariables false
set_option linter.unusedSimpArgs false
attribute [local go_sem ↓] Go.wp_at_zero Go.wp_at_succ

set_option maxHeartbeats 1000000 in
theorem rSap_any (a s : Int) (w : World) :
    Calls Try.prog 52 #[.agg #[.int .i64 a, .int .i64 s]] w fun e w' => e = .returned (.bool (spB a s)) ∧ Below w.heap.size w w' := by
  have c1 := Lib.hid (rIn_any a 0 1000000000000)
  have c2 := Lib.hid (rIn_any s 0 1000000000000)
  have hv : Hid (spB a s = ((decide (0 ≤ a) && decide (a ≤ 1000000000000)) && (decide (0 ≤ s) && decide (s ≤ 1000000000000)))) := Lib.hid (by simp [spB, Bool.and_assoc])
  generalize (decide (0 ≤ a) && decide (a ≤ 1000000000000)) = p at *
  generalize (decide (0 ≤ s) && decide (s ≤ 1000000000000)) = q at *
  cases p
  · go_enter Try.func52, Try.ntmps52
    go_wp2_with fail
    refine (c1.out _).mono ?_
    rintro e w1 ⟨rfl, rfl⟩
    go_wp2_with fail
    go_ret
    exact ⟨by rw [hv.out]; rfl, (Below.refl _ _).alloc (Nat.le_refl _) _⟩
  · go_enter Try.func52, Try.ntmps52
    go_wp2_with fail
    refine (c1.out _).mono ?_
    rintro e w1 ⟨rfl, rfl⟩
    go_wp2_with fail
    refine (c2.out _).mono ?_
    rintro e w1 ⟨rfl, rfl⟩
    go_wp2_with fail
    go_ret
    exact ⟨by rw [hv.out]; rfl, (Below.refl _ _).alloc (Nat.le_refl _) _⟩

set_option maxHeartbeats 400000 in
theorem rplus_any (a s x y : Int) (h1 : IntKind.i64.wrap (a + x) = a + x) (h2 : IntKind.i64.wrap (s + y) = s + y) (w : World) :
    Calls Try.prog 54 #[.agg #[.int .i64 a, .int .i64 s], .agg #[.int .i64 x, .int .i64 y]] w fun e w' => e = .returned (.agg #[.int .i64 (a + x), .int .i64 (s + y)]) ∧ Below w.heap.size w w' := by
  go_enter Try.func54, Try.ntmps54
  go_wp2_with fail
  refine bodyPost_ret (v := .agg #[.int .i64 (a + x), .int .i64 (s + y)]) (by simp [results, Try.results54, go_sem]) rfl ⟨rfl, ?_⟩
  exact (below_al2 w _ _).trans (((Below.refl _ _).alloc (Nat.le_refl _) _).mono (by simp; omega))

set_option maxRecDepth 20000 in
set_option maxHeartbeats 1000000 in
theorem rRound_any (a s t p : Nat) (ha : a ≤ 1000000000000) (hs : s ≤ 1000000000000) (ht : t ≤ 10000) (hp : p ≤ 10000) (w : World) :
    Calls Try.prog 53 #[.agg #[.int .i64 (a : Int), .int .i64 (s : Int)], .int .i64 (t : Int), .int .i64 (p : Int)] w fun e w' =>
      e = .returned (.tuple #[.agg #[.int .i64 ((a - offW a t : Nat) : Int), .int .i64 ((s - offS a s t p : Nat) : Int)], .agg #[.int .i64 (offW a t : Nat), .int .i64 (offS a s t p : Nat)]]) ∧ Below w.heap.size w w' := by
  have m1 : a * t ≤ 1000000000000 * 10000 := Nat.mul_le_mul ha ht
  have m2 : s * p ≤ 1000000000000 * 10000 := Nat.mul_le_mul hs hp
  have l1 := offW_le a t ht
  have e1 : IntKind.i64.wrap ((a : Int) * (t : Int)) = ((a * t : Nat) : Int) := by rw [Int.natCast_mul]; exact IntWalk.i64_in _ (by rw [← Int.natCast_mul]; omega)
  have e2 : ((a * t : Nat) : Int) / 10000 = ((offW a t : Nat) : Int) := by unfold offW; rw [Int.natCast_ediv]; rfl
  have e2' : wrap64 (((a * t : Nat) : Int).tdiv 10000) = ((offW a t : Nat) : Int) := by rw [Int.tdiv_eq_ediv_of_nonneg (by omega), e2]; exact IntWalk.wrap64_in _ (by omega)
  have e3 : IntKind.i64.wrap ((s : Int) * (p : Int)) = ((s * p : Nat) : Int) := by rw [Int.natCast_mul]; exact IntWalk.i64_in _ (by rw [← Int.natCast_mul]; omega)
  have e4 : IntKind.i64.wrap ((a : Int) * 10000) = ((a * 10000 : Nat) : Int) := by rw [show ((a : Int) * 10000) = ((a * 10000 : Nat) : Int) from by omega]; exact IntWalk.i64_in _ (by omega)
  have l2 : offS a s t p ≤ s := offS_le a s t p ht hp
  have e5 : IntKind.i64.wrap ((a : Int) - ((offW a t : Nat) : Int)) = ((a - offW a t : Nat) : Int) := by rw [show ((a : Int) - ((offW a t : Nat) : Int)) = ((a - offW a t : Nat) : Int) from by omega]; exact IntWalk.i64_in _ (by omega)
  have e6 : IntKind.i64.wrap ((s : Int) - ((offS a s t p : Nat) : Int)) = ((s - offS a s t p : Nat) : Int) := by rw [show ((s : Int) - ((offS a s t p : Nat) : Int)) = ((s - offS a s t p : Nat) : Int) from by omega]; exact IntWalk.i64_in _ (by omega)
  have hM : (0 : Int) ≤ ((a * t : Nat) : Int) := by omega
  by_cases h0 : a = 0
  · subst h0
    have o1 : offW 0 t = 0 := by simp [offW]
    have o2 : offS 0 s t p = 0 := by simp [offS]
    rw [o1, o2]
    simp only [Nat.sub_zero, Nat.zero_sub]
    have e7 : IntKind.i64.wrap (0 * (t : Int)) = 0 := by simp [IntKind.wrap_i64]
    have e8 : IntKind.i64.wrap (s : Int) = s := IntWalk.i64_in _ (by omega)
    clear e1 e2 e2' e3 e4 e5 e6 m1 m2 l1 l2 hM
    go_enter Try.func53, Try.ntmps53
    go_wp2_with fail
    go_region
    all_goals
      go_wp2_with fail
      refine bodyPost_ret (v := .tuple #[.agg #[.int .i64 0, .int .i64 (s : Int)], .agg #[.int .i64 0, .int .i64 0]]) (by simp [results, Try.results53, go_sem, *]) rfl ⟨rfl, ?_⟩
      refine Below.drew ?_
      exact ((((Below.refl _ _).alloc (Nat.le_refl _) _).alloc (by simp) _).alloc (by simp <;> omega) _).alloc (by simp <;> omega) _
  · have hA : (0 : Int) < (a : Int) := by omega
    have cm := Lib.hid (mulDiv_any (offW a t) (s * p) (a * 10000) (by omega) (by omega) (by omega) (by omega))
    rw [show offW a t * (s * p) / (a * 10000) = offS a s t p from by unfold offS; rw [Nat.mul_comm (offW a t)]] at cm
    clear m1 m2 l1 l2 h0 ha hs ht hp
    generalize ((a * t : Nat) : Int) = M at *
    generalize ((offW a t : Nat) : Int) = G at *
    generalize ((s * p : Nat) : Int) = SP at *
    generalize ((a * 10000 : Nat) : Int) = CC at *
    generalize ((offS a s t p : Nat) : Int) = Q at *
    generalize ((a - offW a t : Nat) : Int) = RA at *
    generalize ((s - offS a s t p : Nat) : Int) = RS at *
    generalize (a : Int) = A at *
    generalize (s : Int) = S at *
    generalize (t : Int) = T at *
    generalize (p : Int) = P at *
    go_enter Try.func53, Try.ntmps53
    go_wp2_with fail
    refine (cm.out _).mono ?_
    rintro e w1 ⟨rfl, hb⟩
    have b0 := cell_next hb (b := w.heap.size) (o := 0) (by simp <;> omega) (v := some (.int .i64 A)) (by simp [go_sem])
    have b1 := cell_next hb (b := w.heap.size) (o := 1) (by simp <;> omega) (v := some (.int .i64 S)) (by simp [go_sem])
    have x0 := cell_next hb (b := w.heap.size + 1) (o := 0) (by simp <;> omega) (v := some (.int .i64 0)) (by simp [go_sem])
    have x1 := cell_next hb (b := w.heap.size + 1) (o := 1) (by simp <;> omega) (v := some (.int .i64 0)) (by simp [go_sem])
    have y0 := cell_next hb (b := w.heap.size + 1 + 1) (o := 0) (by simp <;> omega) (v := some (.int .i64 0)) (by simp [go_sem])
    have y1 := cell_next hb (b := w.heap.size + 1 + 1) (o := 1) (by simp <;> omega) (v := some (.int .i64 0)) (by simp [go_sem])
    have z0 := cell_next hb (b := w.heap.size + 1 + 1 + 1) (o := 0) (by simp) (v := some (.int .i64 G)) (by simp [go_sem])
    have z1 := cell_next hb (b := w.heap.size + 1 + 1 + 1) (o := 1) (by simp) (v := some (.int .i64 0)) (by simp [go_sem])
    have xf0 := frozen_next hb (b := w.heap.size + 1) (o := 0) (by simp <;> omega) (v := false) (by simp [go_sem])
    have xf1 := frozen_next hb (b := w.heap.size + 1) (o := 1) (by simp <;> omega) (v := false) (by simp [go_sem])
    have yf0 := frozen_next hb (b := w.heap.size + 1 + 1) (o := 0) (by simp <;> omega) (v := false) (by simp [go_sem])
    have yf1 := frozen_next hb (b := w.heap.size + 1 + 1) (o := 1) (by simp <;> omega) (v := false) (by simp [go_sem])
    have zf1 := frozen_next hb (b := w.heap.size + 1 + 1 + 1) (o := 1) (by simp) (v := false) (by simp [go_sem])
    have hB := below3 (below1 hb)
    have hz := hb.size
    simp at hz
    clear hb cm
    go_wp2_with fail
    go_region
    all_goals
      go_wp2_with fail
      refine bodyPost_ret (v := .tuple #[.agg #[.int .i64 RA, .int .i64 RS], .agg #[.int .i64 G, .int .i64 Q]]) (by simp [results, Try.results53, go_sem, *]) rfl ⟨rfl, ?_⟩
      exact Below.drew (((((hB.setCell (by simp <;> omega) _).setCell (by simp <;> omega) _).setCell (by simp <;> omega) _).setCell (by simp <;> omega) _).setCell (by simp <;> omega) _)

open Go.RowKit Go.Lib Go.Shelf
set_option linter.unusedVariables false
set_option linter.unusedSimpArgs false
attribute [local go_sem ↓] Go.wp_at_zero Go.wp_at_succ

theorem rk_le2 (t p a s : Nat) (ht : t ≤ 10000) (hp : p ≤ 10000) : ∀ k, (rk t p (a, s) k).1 ≤ a ∧ (rk t p (a, s) k).2 ≤ s
  | 0 => ⟨Nat.le_refl _, Nat.le_refl _⟩
  | k + 1 => by
    have h := rk_le2 t p a s ht hp k
    have e1 : (rk t p (a, s) (k + 1)).1 = (rk t p (a, s) k).1 - offW (rk t p (a, s) k).1 t := rfl
    have e2 : (rk t p (a, s) (k + 1)).2 = (rk t p (a, s) k).2 - offS (rk t p (a, s) k).1 (rk t p (a, s) k).2 t p := rfl
    rw [e1, e2]
    omega
/-- the reference's boxes between its rounds -/
def RRI (w : World) (q a s k : Nat) (x : Nat × Nat) (W : World) : Prop :=
  q < W.heap.size ∧ w.heap.size + 1 + 1 < q ∧ W.cell? ⟨w.heap.size, 0, none⟩ = some (.int .i64 (x.1 : Int)) ∧ W.cell? ⟨w.heap.size, 1, none⟩ = some (.int .i64 (x.2 : Int)) ∧ W.cell? ⟨q, 0, none⟩ = some (.int .i64 ((a - x.1 : Nat) : Int)) ∧ W.cell? ⟨q, 1, none⟩ = some (.int .i64 ((s - x.2 : Nat) : Int)) ∧
  W.cell? ⟨w.heap.size + 1, 0, none⟩ = some (.int .i64 0) ∧ W.cell? ⟨w.heap.size + 1, 1, none⟩ = some (.int .i64 0) ∧ W.cell? ⟨w.heap.size + 1 + 1, 0, none⟩ = some (.int .i64 0) ∧ W.cell? ⟨w.heap.size + 1 + 1, 1, none⟩ = some (.int .i64 0) ∧
  W.frozen? ⟨w.heap.size, 0, none⟩ = false ∧ W.frozen? ⟨w.heap.size, 1, none⟩ = false ∧ W.frozen? ⟨q, 0, none⟩ = false ∧ W.frozen? ⟨q, 1, none⟩ = false ∧ W.frozen? ⟨w.heap.size + 1, 0, none⟩ = false ∧ W.frozen? ⟨w.heap.size + 1, 1, none⟩ = false ∧ W.frozen? ⟨w.heap.size + 1 + 1, 0, none⟩ = false ∧ W.frozen? ⟨w.heap.size + 1 + 1, 1, none⟩ = false ∧ Below w.heap.size w W

set_option maxRecDepth 20000 in
set_option maxHeartbeats 2000000 in
theorem rRounds_ok (a s t p R : Nat) (ha : a ≤ 1000000000000) (hs : s ≤ 1000000000000) (ht : t ≤ 10000) (hp : p ≤ 10000) (hR : R ≤ 200) (w : World) :
    Calls Try.prog 18 #[.agg #[.int .i64 (a : Int), .int .i64 (s : Int)], .int .i64 (t : Int), .int .i64 (p : Int), .int .i64 (R : Int)] w fun e w' =>
      e = .returned (.tuple #[.agg #[.int .i64 ((rk t p (a, s) R).1 : Nat), .int .i64 ((rk t p (a, s) R).2 : Nat)], .agg #[.int .i64 ((a - (rk t p (a, s) R).1 : Nat) : Int), .int .i64 ((s - (rk t p (a, s) R).2 : Nat) : Int)], .int .i64 0]) ∧ Below w.heap.size w w' := by
  have c1 := Lib.hid (rSap_any (a : Int) (s : Int))
  rw [show spB (a : Int) (s : Int) = true from by simp [spB]; omega] at c1
  have c2 := Lib.hid (rIn_any (t : Int) 0 10000)
  rw [show (decide ((0 : Int) ≤ (t : Int)) && decide ((t : Int) ≤ 10000)) = true from by simp; omega] at c2
  have c3 := Lib.hid (rIn_any (p : Int) 0 10000)
  rw [show (decide ((0 : Int) ≤ (p : Int)) && decide ((p : Int) ≤ 10000)) = true from by simp; omega] at c3
  have c4 := Lib.hid (rIn_any (R : Int) 0 200)
  rw [show (decide ((0 : Int) ≤ (R : Int)) && decide ((R : Int) ≤ 200)) = true from by simp; omega] at c4
  go_enter Try.func18, Try.ntmps18
  go_wp2_with fail
  refine (c1.out _).mono ?_
  rintro e w1 ⟨rfl, hb⟩
  have b0 := cell_next hb (b := w.heap.size) (o := 0) (by simp <;> omega) (v := some (.int .i64 (a : Int))) (by simp [go_sem])
  have b1 := cell_next hb (b := w.heap.size) (o := 1) (by simp <;> omega) (v := some (.int .i64 (s : Int))) (by simp [go_sem])
  have x0 := cell_next hb (b := w.heap.size + 1) (o := 0) (by simp) (v := some (.int .i64 0)) (by simp [go_sem])
  have x1 := cell_next hb (b := w.heap.size + 1) (o := 1) (by simp) (v := some (.int .i64 0)) (by simp [go_sem])
  have y0 := cell_next hb (b := w.heap.size + 1 + 1) (o := 0) (by simp) (v := some (.int .i64 0)) (by simp [go_sem])
  have y1 := cell_next hb (b := w.heap.size + 1 + 1) (o := 1) (by simp) (v := some (.int .i64 0)) (by simp [go_sem])
  have bf0 := frozen_next hb (b := w.heap.size) (o := 0) (by simp <;> omega) (v := false) (by simp [go_sem])
  have bf1 := frozen_next hb (b := w.heap.size) (o := 1) (by simp <;> omega) (v := false) (by simp [go_sem])
  have xf0 := frozen_next hb (b := w.heap.size + 1) (o := 0) (by simp) (v := false) (by simp [go_sem])
  have xf1 := frozen_next hb (b := w.heap.size + 1) (o := 1) (by simp) (v := false) (by simp [go_sem])
  have yf0 := frozen_next hb (b := w.heap.size + 1 + 1) (o := 0) (by simp) (v := false) (by simp [go_sem])
  have yf1 := frozen_next hb (b := w.heap.size + 1 + 1) (o := 1) (by simp) (v := false) (by simp [go_sem])
  have hz := hb.size
  simp at hz
  have hB := below3 hb
  clear hb c1
  have hq : w.heap.size + 1 + 1 < w1.heap.size := by omega
  go_wp2_with fail
  refine (c2.out _).mono ?_
  rintro e w2 ⟨rfl, rfl⟩
  go_wp2_with fail
  refine (c3.out _).mono ?_
  rintro e w2 ⟨rfl, rfl⟩
  go_wp2_with fail
  refine (c4.out _).mono ?_
  rintro e w2 ⟨rfl, rfl⟩
  go_wp2_with fail
  have hBq : Below w.heap.size w (w1.alloc (Obj.cells #[.int .i64 0, .int .i64 0] 36)) := hB.alloc hB.size _
  have hBs : Below w1.heap.size w1 (w1.alloc (Obj.cells #[.int .i64 0, .int .i64 0] 36)) := (Below.refl _ _).alloc (Nat.le_refl _) _
  replace b0 := cell_next hBs (by omega) b0
  replace b1 := cell_next hBs (by omega) b1
  replace x0 := cell_next hBs (by omega) x0
  replace x1 := cell_next hBs (by omega) x1
  replace y0 := cell_next hBs (by omega) y0
  replace y1 := cell_next hBs (by omega) y1
  replace bf0 := frozen_next hBs (by omega) bf0
  replace bf1 := frozen_next hBs (by omega) bf1
  replace xf0 := frozen_next hBs (by omega) xf0
  replace xf1 := frozen_next hBs (by omega) xf1
  replace yf0 := frozen_next hBs (by omega) yf0
  replace yf1 := frozen_next hBs (by omega) yf1
  have g0 : (w1.alloc (Obj.cells #[.int .i64 0, .int .i64 0] 36)).cell? ⟨w1.heap.size, 0, none⟩ = some (.int .i64 0) := cell_new _ _ _ 0
  have g1 : (w1.alloc (Obj.cells #[.int .i64 0, .int .i64 0] 36)).cell? ⟨w1.heap.size, 1, none⟩ = some (.int .i64 0) := cell_new _ _ _ 1
  have gf0 : (w1.alloc (Obj.cells #[.int .i64 0, .int .i64 0] 36)).frozen? ⟨w1.heap.size, 0, none⟩ = false := by simp [go_sem]
  have gf1 : (w1.alloc (Obj.cells #[.int .i64 0, .int .i64 0] 36)).frozen? ⟨w1.heap.size, 1, none⟩ = false := by simp [go_sem]
  have ng : w1.heap.size < (w1.alloc (Obj.cells #[.int .i64 0, .int .i64 0] 36)).heap.size := by simp
  clear hBs hB c2 c3 c4 hz
  generalize w1.alloc (Obj.cells #[.int .i64 0, .int .i64 0] 36) = W at *
  generalize w1.heap.size = q at *
  have HI : Hid (RRI w q a s 0 (a, s) W) := Lib.hid ⟨ng, by omega, b0, b1, by simpa using g0, by simpa using g1, x0, x1, y0, y1, bf0, bf1, gf0, gf1, xf0, xf1, yf0, yf1, hBq⟩
  clear b0 b1 x0 x1 y0 y1 bf0 bf1 xf0 xf1 yf0 yf1 g0 g1 gf0 gf1 ng hBq
  go_loopw [12] (fun i wr => ∃ k : Nat, k ≤ R ∧ i = .int .i64 (k : Int) ∧ Hid (RRI w q a s k (rk t p (a, s) k) wr)) (fun i _ => R - (RowKit.intOf i).toNat)
  case atStart => exact ⟨0, Nat.zero_le _, rfl, HI⟩
  case round =>
    clear HI
    obtain ⟨k, hk, rfl, HI⟩ := hrel
    by_cases hlt : k < R
    · have hs := rk_le2 t p a s ht hp k
      have CR := Lib.hid (rRound_any (rk t p (a, s) k).1 (rk t p (a, s) k).2 t p (by omega) (by omega) ht hp)
      have hn1 : (rk t p (a, s) (k + 1)).1 = (rk t p (a, s) k).1 - offW (rk t p (a, s) k).1 t := rfl
      have hn2 : (rk t p (a, s) (k + 1)).2 = (rk t p (a, s) k).2 - offS (rk t p (a, s) k).1 (rk t p (a, s) k).2 t p := rfl
      obtain ⟨ng, hwq, b0, b1, g0, g1, x0, x1, y0, y1, bf0, bf1, gf0, gf1, xf0, xf1, yf0, yf1, hbr⟩ := HI.out
      clear HI
      have l1 := offW_le (rk t p (a, s) k).1 t ht
      have l2 := offS_le (rk t p (a, s) k).1 (rk t p (a, s) k).2 t p ht hp
      generalize rk t p (a, s) k = x at *
      obtain ⟨u1, u2⟩ := x
      dsimp only at *
      generalize offW u1 t = o1 at *
      generalize offS u1 u2 t p = o2 at *
      have CP := rplus_any ((a - u1 : Nat) : Int) ((s - u2 : Nat) : Int) (o1 : Int) (o2 : Int) (IntWalk.i64_in _ (by omega)) (IntWalk.i64_in _ (by omega))
      rw [show ((a - u1 : Nat) : Int) + (o1 : Int) = ((a - (u1 - o1) : Nat) : Int) from by omega, show ((s - u2 : Nat) : Int) + (o2 : Int) = ((s - (u2 - o2) : Nat) : Int) from by omega] at CP
      have CP := Lib.hid CP
      have HX : Hid (rk t p (a, s) (k + 1) = (u1 - o1, u2 - o2)) := Lib.hid (Prod.ext hn1 hn2)
      clear hn1 hn2 l1 l2 hs
      obtain ⟨na, hna⟩ : ∃ z : Int, ((a - (u1 - o1) : Nat) : Int) = z := ⟨_, rfl⟩
      obtain ⟨nb', hnb⟩ : ∃ z : Int, ((s - (u2 - o2) : Nat) : Int) = z := ⟨_, rfl⟩
      have Hna := Lib.hid hna
      have Hnb := Lib.hid hnb
      have hcp := CP.out
      rw [hna, hnb] at hcp
      replace CP := Lib.hid hcp
      clear hcp hna hnb
      go_wp2_with fail
      refine (CR.out _).mono ?_
      rintro e w2 ⟨rfl, hb⟩
      replace b0 := cell_next hb (by omega) b0
      replace b1 := cell_next hb (by omega) b1
      replace g0 := cell_next hb ng g0
      replace g1 := cell_next hb ng g1
      replace x0 := cell_next hb (by omega) x0
      replace x1 := cell_next hb (by omega) x1
      replace y0 := cell_next hb (by omega) y0
      replace y1 := cell_next hb (by omega) y1
      replace bf0 := frozen_next hb (by omega) bf0
      replace bf1 := frozen_next hb (by omega) bf1
      replace gf0 := frozen_next hb ng gf0
      replace gf1 := frozen_next hb ng gf1
      replace xf0 := frozen_next hb (by omega) xf0
      replace xf1 := frozen_next hb (by omega) xf1
      replace yf0 := frozen_next hb (by omega) yf0
      replace yf1 := frozen_next hb (by omega) yf1
      replace ng := Nat.lt_of_lt_of_le ng hb.size
      replace hbr := hbr.trans (hb.mono hbr.size)
      clear hb CR
      go_upto_region 10 with fail
      have hb : Below w2.heap.size w2 ((w2.alloc (Obj.cells #[.int .i64 ((u1 - o1 : Nat) : Int), .int .i64 ((u2 - o2 : Nat) : Int)] 36)).alloc (Obj.cells #[.int .i64 (o1 : Int), .int .i64 (o2 : Int)] 36)) := below_al2 w2 _ _
      replace b0 := cell_next hb (by omega) b0
      replace b1 := cell_next hb (by omega) b1
      replace g0 := cell_next hb ng g0
      replace g1 := cell_next hb ng g1
      replace x0 := cell_next hb (by omega) x0
      replace x1 := cell_next hb (by omega) x1
      replace y0 := cell_next hb (by omega) y0
      replace y1 := cell_next hb (by omega) y1
      replace bf0 := frozen_next hb (by omega) bf0
      replace bf1 := frozen_next hb (by omega) bf1
      replace gf0 := frozen_next hb ng gf0
      replace gf1 := frozen_next hb ng gf1
      replace xf0 := frozen_next hb (by omega) xf0
      replace xf1 := frozen_next hb (by omega) xf1
      replace yf0 := frozen_next hb (by omega) yf0
      replace yf1 := frozen_next hb (by omega) yf1
      have k0 : ((w2.alloc (Obj.cells #[.int .i64 ((u1 - o1 : Nat) : Int), .int .i64 ((u2 - o2 : Nat) : Int)] 36)).alloc (Obj.cells #[.int .i64 (o1 : Int), .int .i64 (o2 : Int)] 36)).cell? ⟨w2.heap.size, 0, none⟩ = some (.int .i64 ((u1 - o1 : Nat) : Int)) := by simp [go_sem]
      have k1 : ((w2.alloc (Obj.cells #[.int .i64 ((u1 - o1 : Nat) : Int), .int .i64 ((u2 - o2 : Nat) : Int)] 36)).alloc (Obj.cells #[.int .i64 (o1 : Int), .int .i64 (o2 : Int)] 36)).cell? ⟨w2.heap.size, 1, none⟩ = some (.int .i64 ((u2 - o2 : Nat) : Int)) := by simp [go_sem]
      have m0 : ((w2.alloc (Obj.cells #[.int .i64 ((u1 - o1 : Nat) : Int), .int .i64 ((u2 - o2 : Nat) : Int)] 36)).alloc (Obj.cells #[.int .i64 (o1 : Int), .int .i64 (o2 : Int)] 36)).cell? ⟨w2.heap.size + 1, 0, none⟩ = some (.int .i64 (o1 : Int)) := by simp [go_sem]
      have m1 : ((w2.alloc (Obj.cells #[.int .i64 ((u1 - o1 : Nat) : Int), .int .i64 ((u2 - o2 : Nat) : Int)] 36)).alloc (Obj.cells #[.int .i64 (o1 : Int), .int .i64 (o2 : Int)] 36)).cell? ⟨w2.heap.size + 1, 1, none⟩ = some (.int .i64 (o2 : Int)) := by simp [go_sem]
      have nk : w2.heap.size < ((w2.alloc (Obj.cells #[.int .i64 ((u1 - o1 : Nat) : Int), .int .i64 ((u2 - o2 : Nat) : Int)] 36)).alloc (Obj.cells #[.int .i64 (o1 : Int), .int .i64 (o2 : Int)] 36)).heap.size := by simp; omega
      have nm : w2.heap.size + 1 < ((w2.alloc (Obj.cells #[.int .i64 ((u1 - o1 : Nat) : Int), .int .i64 ((u2 - o2 : Nat) : Int)] 36)).alloc (Obj.cells #[.int .i64 (o1 : Int), .int .i64 (o2 : Int)] 36)).heap.size := by simp
      have hqk := ng
      replace ng := Nat.lt_of_lt_of_le ng hb.size
      replace hbr := hbr.trans (hb.mono hbr.size)
      have nb : w.heap.size < ((w2.alloc (Obj.cells #[.int .i64 ((u1 - o1 : Nat) : Int), .int .i64 ((u2 - o2 : Nat) : Int)] 36)).alloc (Obj.cells #[.int .i64 (o1 : Int), .int .i64 (o2 : Int)] 36)).heap.size := by simp; omega
      have nx : w.heap.size + 1 < ((w2.alloc (Obj.cells #[.int .i64 ((u1 - o1 : Nat) : Int), .int .i64 ((u2 - o2 : Nat) : Int)] 36)).alloc (Obj.cells #[.int .i64 (o1 : Int), .int .i64 (o2 : Int)] 36)).heap.size := by simp; omega
      have ny : w.heap.size + 1 + 1 < ((w2.alloc (Obj.cells #[.int .i64 ((u1 - o1 : Nat) : Int), .int .i64 ((u2 - o2 : Nat) : Int)] 36)).alloc (Obj.cells #[.int .i64 (o1 : Int), .int .i64 (o2 : Int)] 36)).heap.size := by simp; omega
      clear hb
      generalize ((w2.alloc (Obj.cells #[.int .i64 ((u1 - o1 : Nat) : Int), .int .i64 ((u2 - o2 : Nat) : Int)] 36)).alloc (Obj.cells #[.int .i64 (o1 : Int), .int .i64 (o2 : Int)] 36)) = X at *
      generalize hr : w2.heap.size = r at *
      clear hr
      have hBW : w.heap.size ≤ X.heap.size := hbr.size
      refine wp_region_held_drew (S := fun w' => w'.cell? ⟨r, 0, none⟩ = some (.int .i64 ((u1 - o1 : Nat) : Int)) ∧ w'.cell? ⟨r, 1, none⟩ = some (.int .i64 ((u2 - o2 : Nat) : Int)) ∧ w'.cell? ⟨r + 1, 0, none⟩ = some (.int .i64 (o1 : Int)) ∧ w'.cell? ⟨r + 1, 1, none⟩ = some (.int .i64 (o2 : Int)) ∧ True) (by kernel_rfl) ?_ (fun hHeld => ?_)
      focus (exact ⟨k0, k1, m0, m1, trivial⟩)
      have hL : Below w.heap.size X X.drew := Below.drew (Below.refl _ _)
      replace k0 : X.drew.cell? ⟨r, 0, none⟩ = some (.int .i64 ((u1 - o1 : Nat) : Int)) := k0
      replace k1 : X.drew.cell? ⟨r, 1, none⟩ = some (.int .i64 ((u2 - o2 : Nat) : Int)) := k1
      replace m0 : X.drew.cell? ⟨r + 1, 0, none⟩ = some (.int .i64 (o1 : Int)) := m0
      replace m1 : X.drew.cell? ⟨r + 1, 1, none⟩ = some (.int .i64 (o2 : Int)) := m1
      replace g0 : X.drew.cell? ⟨q, 0, none⟩ = some (.int .i64 ((a - u1 : Nat) : Int)) := g0
      replace g1 : X.drew.cell? ⟨q, 1, none⟩ = some (.int .i64 ((s - u2 : Nat) : Int)) := g1
      replace b0 : X.drew.cell? ⟨w.heap.size, 0, none⟩ = some (.int .i64 (u1 : Int)) := b0
      replace b1 : X.drew.cell? ⟨w.heap.size, 1, none⟩ = some (.int .i64 (u2 : Int)) := b1
      replace x0 : X.drew.cell? ⟨w.heap.size + 1, 0, none⟩ = some (.int .i64 0) := x0
      replace x1 : X.drew.cell? ⟨w.heap.size + 1, 1, none⟩ = some (.int .i64 0) := x1
      replace y0 : X.drew.cell? ⟨w.heap.size + 1 + 1, 0, none⟩ = some (.int .i64 0) := y0
      replace y1 : X.drew.cell? ⟨w.heap.size + 1 + 1, 1, none⟩ = some (.int .i64 0) := y1
      replace bf0 : X.drew.frozen? ⟨w.heap.size, 0, none⟩ = false := bf0
      replace bf1 : X.drew.frozen? ⟨w.heap.size, 1, none⟩ = false := bf1
      replace gf0 : X.drew.frozen? ⟨q, 0, none⟩ = false := gf0
      replace gf1 : X.drew.frozen? ⟨q, 1, none⟩ = false := gf1
      replace xf0 : X.drew.frozen? ⟨w.heap.size + 1, 0, none⟩ = false := xf0
      replace xf1 : X.drew.frozen? ⟨w.heap.size + 1, 1, none⟩ = false := xf1
      replace yf0 : X.drew.frozen? ⟨w.heap.size + 1 + 1, 0, none⟩ = false := yf0
      replace yf1 : X.drew.frozen? ⟨w.heap.size + 1 + 1, 1, none⟩ = false := yf1
      replace nk : r < X.drew.heap.size := nk
      replace nm : r + 1 < X.drew.heap.size := nm
      replace ng : q < X.drew.heap.size := ng
      replace nb : w.heap.size < X.drew.heap.size := nb
      replace nx : w.heap.size + 1 < X.drew.heap.size := nx
      replace ny : w.heap.size + 1 + 1 < X.drew.heap.size := ny
      generalize hWd : X.drew = wd at hHeld hL k0 k1 m0 m1 g0 g1 b0 b1 x0 x1 y0 y1 bf0 bf1 gf0 gf1 xf0 xf1 yf0 yf1 nk nm ng nb nx ny  ⊢
      clear hWd
      refine take_slot (i := 0) (d := 48) (v := ?_) rfl rfl (by kernel_rfl) (by kernel_rfl) (by kernel_rfl) (fun _ _ _ h => h) (Or.inl ⟨by rfl, ?_⟩) (by assumption) ?_
      rotate_left 1
      focus (intro wS hSw; (try dsimp only at hSw); go_simp; try with_reducible rfl)
      try simp only [List.setIfInBounds_toArray, List.set_cons_zero, List.set_cons_succ]
      refine take_slot (i := 2) (d := 50) (v := ?_) rfl rfl (by kernel_rfl) (by kernel_rfl) (by kernel_rfl) (fun _ _ _ h => h) (Or.inl ⟨by rfl, ?_⟩) (by assumption) ?_
      rotate_left 1
      focus (intro wS hSw; (try dsimp only at hSw); go_simp; try with_reducible rfl)
      try simp only [List.setIfInBounds_toArray, List.set_cons_zero, List.set_cons_succ]
      refine wpAnyH_ready (rs := [1]) (by kernel_rfl) (by simp) ?_
      refine AllReadyH.cons rfl (fun K hK => ?_) AllReadyH.nil
      go_simp
      refine hK.out _ _ ⟨k0, k1, m0, m1, trivial⟩ (fun hHeld => ?_)
      clear hK K
      try simp only [Act.put, List.setIfInBounds_toArray, List.set_cons_zero, List.set_cons_succ]
      refine wpAnyH_ready (rs := [3]) (by kernel_rfl) (by simp) ?_
      refine AllReadyH.cons rfl (fun K hK => ?_) AllReadyH.nil
      go_simp
      refine (CP.out _).mono ?_
      rintro e Z2 ⟨rfl, hb⟩
      replace k0 := cell_next hb nk k0
      replace k1 := cell_next hb nk k1
      replace m0 := cell_next hb nm m0
      replace m1 := cell_next hb nm m1
      replace g0 := cell_next hb ng g0
      replace g1 := cell_next hb ng g1
      replace b0 := cell_next hb nb b0
      replace b1 := cell_next hb nb b1
      replace x0 := cell_next hb nx x0
      replace x1 := cell_next hb nx x1
      replace y0 := cell_next hb ny y0
      replace y1 := cell_next hb ny y1
      replace bf0 := frozen_next hb nb bf0
      replace bf1 := frozen_next hb nb bf1
      replace gf0 := frozen_next hb ng gf0
      replace gf1 := frozen_next hb ng gf1
      replace xf0 := frozen_next hb nx xf0
      replace xf1 := frozen_next hb nx xf1
      replace yf0 := frozen_next hb ny yf0
      replace yf1 := frozen_next hb ny yf1
      replace nk := Nat.lt_of_lt_of_le nk hb.size
      replace nm := Nat.lt_of_lt_of_le nm hb.size
      replace ng := Nat.lt_of_lt_of_le ng hb.size
      replace nb := Nat.lt_of_lt_of_le nb hb.size
      replace nx := Nat.lt_of_lt_of_le nx hb.size
      replace ny := Nat.lt_of_lt_of_le ny hb.size
      replace hL := hL.trans (hb.mono (Nat.le_trans hBW hL.size))
      refine hK.out _ _ ⟨k0, k1, m0, m1, trivial⟩ (fun hHeld => ?_)
      clear hK K hb
      try simp only [Act.put, List.setIfInBounds_toArray, List.set_cons_zero, List.set_cons_succ]
      refine wpAnyH_ready (rs := [4]) (by kernel_rfl) (by simp) ?_
      refine AllReadyH.cons rfl (fun K hK => ?_) AllReadyH.nil
      go_simp
      replace k0 : ((Z2.setCell ⟨w.heap.size, 0, none⟩ (.int .i64 ((u1 - o1 : Nat) : Int))).setCell ⟨w.heap.size, 1, none⟩ (.int .i64 ((u2 - o2 : Nat) : Int))).cell? ⟨r, 0, none⟩ = some (.int .i64 ((u1 - o1 : Nat) : Int)) := ((World.cell?_setCell_other _ _ _ _ (by intro e; injection e with e1 e2; omega)).trans ((World.cell?_setCell_other _ _ _ _ (by intro e; injection e with e1 e2; omega)).trans k0))
      replace k1 : ((Z2.setCell ⟨w.heap.size, 0, none⟩ (.int .i64 ((u1 - o1 : Nat) : Int))).setCell ⟨w.heap.size, 1, none⟩ (.int .i64 ((u2 - o2 : Nat) : Int))).cell? ⟨r, 1, none⟩ = some (.int .i64 ((u2 - o2 : Nat) : Int)) := ((World.cell?_setCell_other _ _ _ _ (by intro e; injection e with e1 e2; omega)).trans ((World.cell?_setCell_other _ _ _ _ (by intro e; injection e with e1 e2; omega)).trans k1))
      replace m0 : ((Z2.setCell ⟨w.heap.size, 0, none⟩ (.int .i64 ((u1 - o1 : Nat) : Int))).setCell ⟨w.heap.size, 1, none⟩ (.int .i64 ((u2 - o2 : Nat) : Int))).cell? ⟨r + 1, 0, none⟩ = some (.int .i64 (o1 : Int)) := ((World.cell?_setCell_other _ _ _ _ (by intro e; injection e with e1 e2; omega)).trans ((World.cell?_setCell_other _ _ _ _ (by intro e; injection e with e1 e2; omega)).trans m0))
      replace m1 : ((Z2.setCell ⟨w.heap.size, 0, none⟩ (.int .i64 ((u1 - o1 : Nat) : Int))).setCell ⟨w.heap.size, 1, none⟩ (.int .i64 ((u2 - o2 : Nat) : Int))).cell? ⟨r + 1, 1, none⟩ = some (.int .i64 (o2 : Int)) := ((World.cell?_setCell_other _ _ _ _ (by intro e; injection e with e1 e2; omega)).trans ((World.cell?_setCell_other _ _ _ _ (by intro e; injection e with e1 e2; omega)).trans m1))
      replace g0 : ((Z2.setCell ⟨w.heap.size, 0, none⟩ (.int .i64 ((u1 - o1 : Nat) : Int))).setCell ⟨w.heap.size, 1, none⟩ (.int .i64 ((u2 - o2 : Nat) : Int))).cell? ⟨q, 0, none⟩ = some (.int .i64 ((a - u1 : Nat) : Int)) := ((World.cell?_setCell_other _ _ _ _ (by intro e; injection e with e1 e2; omega)).trans ((World.cell?_setCell_other _ _ _ _ (by intro e; injection e with e1 e2; omega)).trans g0))
      replace g1 : ((Z2.setCell ⟨w.heap.size, 0, none⟩ (.int .i64 ((u1 - o1 : Nat) : Int))).setCell ⟨w.heap.size, 1, none⟩ (.int .i64 ((u2 - o2 : Nat) : Int))).cell? ⟨q, 1, none⟩ = some (.int .i64 ((s - u2 : Nat) : Int)) := ((World.cell?_setCell_other _ _ _ _ (by intro e; injection e with e1 e2; omega)).trans ((World.cell?_setCell_other _ _ _ _ (by intro e; injection e with e1 e2; omega)).trans g1))
      replace b0 : ((Z2.setCell ⟨w.heap.size, 0, none⟩ (.int .i64 ((u1 - o1 : Nat) : Int))).setCell ⟨w.heap.size, 1, none⟩ (.int .i64 ((u2 - o2 : Nat) : Int))).cell? ⟨w.heap.size, 0, none⟩ = some (.int .i64 ((u1 - o1 : Nat) : Int)) := by simp [go_sem, b0]
      replace b1 : ((Z2.setCell ⟨w.heap.size, 0, none⟩ (.int .i64 ((u1 - o1 : Nat) : Int))).setCell ⟨w.heap.size, 1, none⟩ (.int .i64 ((u2 - o2 : Nat) : Int))).cell? ⟨w.heap.size, 1, none⟩ = some (.int .i64 ((u2 - o2 : Nat) : Int)) := by simp [go_sem, b1]
      replace x0 : ((Z2.setCell ⟨w.heap.size, 0, none⟩ (.int .i64 ((u1 - o1 : Nat) : Int))).setCell ⟨w.heap.size, 1, none⟩ (.int .i64 ((u2 - o2 : Nat) : Int))).cell? ⟨w.heap.size + 1, 0, none⟩ = some (.int .i64 0) := ((World.cell?_setCell_other _ _ _ _ (by intro e; injection e with e1 e2; omega)).trans ((World.cell?_setCell_other _ _ _ _ (by intro e; injection e with e1 e2; omega)).trans x0))
      replace x1 : ((Z2.setCell ⟨w.heap.size, 0, none⟩ (.int .i64 ((u1 - o1 : Nat) : Int))).setCell ⟨w.heap.size, 1, none⟩ (.int .i64 ((u2 - o2 : Nat) : Int))).cell? ⟨w.heap.size + 1, 1, none⟩ = some (.int .i64 0) := ((World.cell?_setCell_other _ _ _ _ (by intro e; injection e with e1 e2; omega)).trans ((World.cell?_setCell_other _ _ _ _ (by intro e; injection e with e1 e2; omega)).trans x1))
      replace y0 : ((Z2.setCell ⟨w.heap.size, 0, none⟩ (.int .i64 ((u1 - o1 : Nat) : Int))).setCell ⟨w.heap.size, 1, none⟩ (.int .i64 ((u2 - o2 : Nat) : Int))).cell? ⟨w.heap.size + 1 + 1, 0, none⟩ = some (.int .i64 0) := ((World.cell?_setCell_other _ _ _ _ (by intro e; injection e with e1 e2; omega)).trans ((World.cell?_setCell_other _ _ _ _ (by intro e; injection e with e1 e2; omega)).trans y0))
      replace y1 : ((Z2.setCell ⟨w.heap.size, 0, none⟩ (.int .i64 ((u1 - o1 : Nat) : Int))).setCell ⟨w.heap.size, 1, none⟩ (.int .i64 ((u2 - o2 : Nat) : Int))).cell? ⟨w.heap.size + 1 + 1, 1, none⟩ = some (.int .i64 0) := ((World.cell?_setCell_other _ _ _ _ (by intro e; injection e with e1 e2; omega)).trans ((World.cell?_setCell_other _ _ _ _ (by intro e; injection e with e1 e2; omega)).trans y1))
      replace bf0 : ((Z2.setCell ⟨w.heap.size, 0, none⟩ (.int .i64 ((u1 - o1 : Nat) : Int))).setCell ⟨w.heap.size, 1, none⟩ (.int .i64 ((u2 - o2 : Nat) : Int))).frozen? ⟨w.heap.size, 0, none⟩ = false := by simp [go_sem, bf0]
      replace bf1 : ((Z2.setCell ⟨w.heap.size, 0, none⟩ (.int .i64 ((u1 - o1 : Nat) : Int))).setCell ⟨w.heap.size, 1, none⟩ (.int .i64 ((u2 - o2 : Nat) : Int))).frozen? ⟨w.heap.size, 1, none⟩ = false := by simp [go_sem, bf1]
      replace gf0 : ((Z2.setCell ⟨w.heap.size, 0, none⟩ (.int .i64 ((u1 - o1 : Nat) : Int))).setCell ⟨w.heap.size, 1, none⟩ (.int .i64 ((u2 - o2 : Nat) : Int))).frozen? ⟨q, 0, none⟩ = false := by simp [go_sem, gf0]
      replace gf1 : ((Z2.setCell ⟨w.heap.size, 0, none⟩ (.int .i64 ((u1 - o1 : Nat) : Int))).setCell ⟨w.heap.size, 1, none⟩ (.int .i64 ((u2 - o2 : Nat) : Int))).frozen? ⟨q, 1, none⟩ = false := by simp [go_sem, gf1]
      replace xf0 : ((Z2.setCell ⟨w.heap.size, 0, none⟩ (.int .i64 ((u1 - o1 : Nat) : Int))).setCell ⟨w.heap.size, 1, none⟩ (.int .i64 ((u2 - o2 : Nat) : Int))).frozen? ⟨w.heap.size + 1, 0, none⟩ = false := by simp [go_sem, xf0]
      replace xf1 : ((Z2.setCell ⟨w.heap.size, 0, none⟩ (.int .i64 ((u1 - o1 : Nat) : Int))).setCell ⟨w.heap.size, 1, none⟩ (.int .i64 ((u2 - o2 : Nat) : Int))).frozen? ⟨w.heap.size + 1, 1, none⟩ = false := by simp [go_sem, xf1]
      replace yf0 : ((Z2.setCell ⟨w.heap.size, 0, none⟩ (.int .i64 ((u1 - o1 : Nat) : Int))).setCell ⟨w.heap.size, 1, none⟩ (.int .i64 ((u2 - o2 : Nat) : Int))).frozen? ⟨w.heap.size + 1 + 1, 0, none⟩ = false := by simp [go_sem, yf0]
      replace yf1 : ((Z2.setCell ⟨w.heap.size, 0, none⟩ (.int .i64 ((u1 - o1 : Nat) : Int))).setCell ⟨w.heap.size, 1, none⟩ (.int .i64 ((u2 - o2 : Nat) : Int))).frozen? ⟨w.heap.size + 1 + 1, 1, none⟩ = false := by simp [go_sem, yf1]
      replace nk : r < ((Z2.setCell ⟨w.heap.size, 0, none⟩ (.int .i64 ((u1 - o1 : Nat) : Int))).setCell ⟨w.heap.size, 1, none⟩ (.int .i64 ((u2 - o2 : Nat) : Int))).heap.size := by simpa [World.setCell] using nk
      replace nm : r + 1 < ((Z2.setCell ⟨w.heap.size, 0, none⟩ (.int .i64 ((u1 - o1 : Nat) : Int))).setCell ⟨w.heap.size, 1, none⟩ (.int .i64 ((u2 - o2 : Nat) : Int))).heap.size := by simpa [World.setCell] using nm
      replace ng : q < ((Z2.setCell ⟨w.heap.size, 0, none⟩ (.int .i64 ((u1 - o1 : Nat) : Int))).setCell ⟨w.heap.size, 1, none⟩ (.int .i64 ((u2 - o2 : Nat) : Int))).heap.size := by simpa [World.setCell] using ng
      replace nb : w.heap.size < ((Z2.setCell ⟨w.heap.size, 0, none⟩ (.int .i64 ((u1 - o1 : Nat) : Int))).setCell ⟨w.heap.size, 1, none⟩ (.int .i64 ((u2 - o2 : Nat) : Int))).heap.size := by simpa [World.setCell] using nb
      replace nx : w.heap.size + 1 < ((Z2.setCell ⟨w.heap.size, 0, none⟩ (.int .i64 ((u1 - o1 : Nat) : Int))).setCell ⟨w.heap.size, 1, none⟩ (.int .i64 ((u2 - o2 : Nat) : Int))).heap.size := by simpa [World.setCell] using nx
      replace ny : w.heap.size + 1 + 1 < ((Z2.setCell ⟨w.heap.size, 0, none⟩ (.int .i64 ((u1 - o1 : Nat) : Int))).setCell ⟨w.heap.size, 1, none⟩ (.int .i64 ((u2 - o2 : Nat) : Int))).heap.size := by simpa [World.setCell] using ny
      replace hL := hL.setCell (p := ⟨w.heap.size, 0, none⟩) (by show w.heap.size ≤ w.heap.size; omega) (.int .i64 ((u1 - o1 : Nat) : Int))
      replace hL := hL.setCell (p := ⟨w.heap.size, 1, none⟩) (by show w.heap.size ≤ w.heap.size; omega) (.int .i64 ((u2 - o2 : Nat) : Int))
      refine hK.out _ _ ⟨k0, k1, m0, m1, trivial⟩ (fun hHeld => ?_)
      clear hK K
      generalize ((Z2.setCell ⟨w.heap.size, 0, none⟩ (.int .i64 ((u1 - o1 : Nat) : Int))).setCell ⟨w.heap.size, 1, none⟩ (.int .i64 ((u2 - o2 : Nat) : Int))) = Z3 at *
      try simp only [Act.put, List.setIfInBounds_toArray, List.set_cons_zero, List.set_cons_succ]
      refine wpAnyH_ready (rs := [5]) (by kernel_rfl) (by simp) ?_
      refine AllReadyH.cons rfl (fun K hK => ?_) AllReadyH.nil
      go_simp
      replace k0 : ((Z3.setCell ⟨q, 0, none⟩ (.int .i64 na)).setCell ⟨q, 1, none⟩ (.int .i64 nb')).cell? ⟨r, 0, none⟩ = some (.int .i64 ((u1 - o1 : Nat) : Int)) := ((World.cell?_setCell_other _ _ _ _ (by intro e; injection e with e1 e2; omega)).trans ((World.cell?_setCell_other _ _ _ _ (by intro e; injection e with e1 e2; omega)).trans k0))
      replace k1 : ((Z3.setCell ⟨q, 0, none⟩ (.int .i64 na)).setCell ⟨q, 1, none⟩ (.int .i64 nb')).cell? ⟨r, 1, none⟩ = some (.int .i64 ((u2 - o2 : Nat) : Int)) := ((World.cell?_setCell_other _ _ _ _ (by intro e; injection e with e1 e2; omega)).trans ((World.cell?_setCell_other _ _ _ _ (by intro e; injection e with e1 e2; omega)).trans k1))
      replace m0 : ((Z3.setCell ⟨q, 0, none⟩ (.int .i64 na)).setCell ⟨q, 1, none⟩ (.int .i64 nb')).cell? ⟨r + 1, 0, none⟩ = some (.int .i64 (o1 : Int)) := ((World.cell?_setCell_other _ _ _ _ (by intro e; injection e with e1 e2; omega)).trans ((World.cell?_setCell_other _ _ _ _ (by intro e; injection e with e1 e2; omega)).trans m0))
      replace m1 : ((Z3.setCell ⟨q, 0, none⟩ (.int .i64 na)).setCell ⟨q, 1, none⟩ (.int .i64 nb')).cell? ⟨r + 1, 1, none⟩ = some (.int .i64 (o2 : Int)) := ((World.cell?_setCell_other _ _ _ _ (by intro e; injection e with e1 e2; omega)).trans ((World.cell?_setCell_other _ _ _ _ (by intro e; injection e with e1 e2; omega)).trans m1))
      replace g0 : ((Z3.setCell ⟨q, 0, none⟩ (.int .i64 na)).setCell ⟨q, 1, none⟩ (.int .i64 nb')).cell? ⟨q, 0, none⟩ = some (.int .i64 na) := by simp [go_sem, g0]
      replace g1 : ((Z3.setCell ⟨q, 0, none⟩ (.int .i64 na)).setCell ⟨q, 1, none⟩ (.int .i64 nb')).cell? ⟨q, 1, none⟩ = some (.int .i64 nb') := by simp [go_sem, g1]
      replace b0 : ((Z3.setCell ⟨q, 0, none⟩ (.int .i64 na)).setCell ⟨q, 1, none⟩ (.int .i64 nb')).cell? ⟨w.heap.size, 0, none⟩ = some (.int .i64 ((u1 - o1 : Nat) : Int)) := ((World.cell?_setCell_other _ _ _ _ (by intro e; injection e with e1 e2; omega)).trans ((World.cell?_setCell_other _ _ _ _ (by intro e; injection e with e1 e2; omega)).trans b0))
      replace b1 : ((Z3.setCell ⟨q, 0, none⟩ (.int .i64 na)).setCell ⟨q, 1, none⟩ (.int .i64 nb')).cell? ⟨w.heap.size, 1, none⟩ = some (.int .i64 ((u2 - o2 : Nat) : Int)) := ((World.cell?_setCell_other _ _ _ _ (by intro e; injection e with e1 e2; omega)).trans ((World.cell?_setCell_other _ _ _ _ (by intro e; injection e with e1 e2; omega)).trans b1))
      replace x0 : ((Z3.setCell ⟨q, 0, none⟩ (.int .i64 na)).setCell ⟨q, 1, none⟩ (.int .i64 nb')).cell? ⟨w.heap.size + 1, 0, none⟩ = some (.int .i64 0) := ((World.cell?_setCell_other _ _ _ _ (by intro e; injection e with e1 e2; omega)).trans ((World.cell?_setCell_other _ _ _ _ (by intro e; injection e with e1 e2; omega)).trans x0))
      replace x1 : ((Z3.setCell ⟨q, 0, none⟩ (.int .i64 na)).setCell ⟨q, 1, none⟩ (.int .i64 nb')).cell? ⟨w.heap.size + 1, 1, none⟩ = some (.int .i64 0) := ((World.cell?_setCell_other _ _ _ _ (by intro e; injection e with e1 e2; omega)).trans ((World.cell?_setCell_other _ _ _ _ (by intro e; injection e with e1 e2; omega)).trans x1))
      replace y0 : ((Z3.setCell ⟨q, 0, none⟩ (.int .i64 na)).setCell ⟨q, 1, none⟩ (.int .i64 nb')).cell? ⟨w.heap.size + 1 + 1, 0, none⟩ = some (.int .i64 0) := ((World.cell?_setCell_other _ _ _ _ (by intro e; injection e with e1 e2; omega)).trans ((World.cell?_setCell_other _ _ _ _ (by intro e; injection e with e1 e2; omega)).trans y0))
      replace y1 : ((Z3.setCell ⟨q, 0, none⟩ (.int .i64 na)).setCell ⟨q, 1, none⟩ (.int .i64 nb')).cell? ⟨w.heap.size + 1 + 1, 1, none⟩ = some (.int .i64 0) := ((World.cell?_setCell_other _ _ _ _ (by intro e; injection e with e1 e2; omega)).trans ((World.cell?_setCell_other _ _ _ _ (by intro e; injection e with e1 e2; omega)).trans y1))
      replace bf0 : ((Z3.setCell ⟨q, 0, none⟩ (.int .i64 na)).setCell ⟨q, 1, none⟩ (.int .i64 nb')).frozen? ⟨w.heap.size, 0, none⟩ = false := by simp [go_sem, bf0]
      replace bf1 : ((Z3.setCell ⟨q, 0, none⟩ (.int .i64 na)).setCell ⟨q, 1, none⟩ (.int .i64 nb')).frozen? ⟨w.heap.size, 1, none⟩ = false := by simp [go_sem, bf1]
      replace gf0 : ((Z3.setCell ⟨q, 0, none⟩ (.int .i64 na)).setCell ⟨q, 1, none⟩ (.int .i64 nb')).frozen? ⟨q, 0, none⟩ = false := by simp [go_sem, gf0]
      replace gf1 : ((Z3.setCell ⟨q, 0, none⟩ (.int .i64 na)).setCell ⟨q, 1, none⟩ (.int .i64 nb')).frozen? ⟨q, 1, none⟩ = false := by simp [go_sem, gf1]
      replace xf0 : ((Z3.setCell ⟨q, 0, none⟩ (.int .i64 na)).setCell ⟨q, 1, none⟩ (.int .i64 nb')).frozen? ⟨w.heap.size + 1, 0, none⟩ = false := by simp [go_sem, xf0]
      replace xf1 : ((Z3.setCell ⟨q, 0, none⟩ (.int .i64 na)).setCell ⟨q, 1, none⟩ (.int .i64 nb')).frozen? ⟨w.heap.size + 1, 1, none⟩ = false := by simp [go_sem, xf1]
      replace yf0 : ((Z3.setCell ⟨q, 0, none⟩ (.int .i64 na)).setCell ⟨q, 1, none⟩ (.int .i64 nb')).frozen? ⟨w.heap.size + 1 + 1, 0, none⟩ = false := by simp [go_sem, yf0]
      replace yf1 : ((Z3.setCell ⟨q, 0, none⟩ (.int .i64 na)).setCell ⟨q, 1, none⟩ (.int .i64 nb')).frozen? ⟨w.heap.size + 1 + 1, 1, none⟩ = false := by simp [go_sem, yf1]
      replace nk : r < ((Z3.setCell ⟨q, 0, none⟩ (.int .i64 na)).setCell ⟨q, 1, none⟩ (.int .i64 nb')).heap.size := by simpa [World.setCell] using nk
      replace nm : r + 1 < ((Z3.setCell ⟨q, 0, none⟩ (.int .i64 na)).setCell ⟨q, 1, none⟩ (.int .i64 nb')).heap.size := by simpa [World.setCell] using nm
      replace ng : q < ((Z3.setCell ⟨q, 0, none⟩ (.int .i64 na)).setCell ⟨q, 1, none⟩ (.int .i64 nb')).heap.size := by simpa [World.setCell] using ng
      replace nb : w.heap.size < ((Z3.setCell ⟨q, 0, none⟩ (.int .i64 na)).setCell ⟨q, 1, none⟩ (.int .i64 nb')).heap.size := by simpa [World.setCell] using nb
      replace nx : w.heap.size + 1 < ((Z3.setCell ⟨q, 0, none⟩ (.int .i64 na)).setCell ⟨q, 1, none⟩ (.int .i64 nb')).heap.size := by simpa [World.setCell] using nx
      replace ny : w.heap.size + 1 + 1 < ((Z3.setCell ⟨q, 0, none⟩ (.int .i64 na)).setCell ⟨q, 1, none⟩ (.int .i64 nb')).heap.size := by simpa [World.setCell] using ny
      replace hL := hL.setCell (p := ⟨q, 0, none⟩) (by show w.heap.size ≤ q; omega) (.int .i64 na)
      replace hL := hL.setCell (p := ⟨q, 1, none⟩) (by show w.heap.size ≤ q; omega) (.int .i64 nb')
      refine hK.out _ _ ⟨k0, k1, m0, m1, trivial⟩ (fun hHeld => ?_)
      clear hK K
      generalize ((Z3.setCell ⟨q, 0, none⟩ (.int .i64 na)).setCell ⟨q, 1, none⟩ (.int .i64 nb')) = Z4 at *
      try simp only [Act.put, List.setIfInBounds_toArray, List.set_cons_zero, List.set_cons_succ]
      refine wpAnyH_done (by kernel_rfl) ?_ _
      replace hbr := hbr.trans hL
      have HI2 : Hid (RRI w q a s (k + 1) (rk t p (a, s) (k + 1)) Z4) := Lib.hid (by
        rw [HX.out]
        refine ⟨ng, hwq, b0, b1, ?_, ?_, x0, x1, y0, y1, bf0, bf1, gf0, gf1, xf0, xf1, yf0, yf1, hbr⟩
        · dsimp only; rw [Hna.out]; exact g0
        · dsimp only; rw [Hnb.out]; exact g1)
      clear hHeld hL b0 b1 g0 g1 x0 x1 y0 y1 bf0 bf1 gf0 gf1 xf0 xf1 yf0 yf1 k0 k1 m0 m1
      go_wp2_with fail
      go_roundw
      case measure => simp [RowKit.intOf]; omega
      exact ⟨k + 1, by omega, by go_num, HI2⟩
    · obtain rfl : k = R := by omega
      obtain ⟨ng, hwq, b0, b1, g0, g1, x0, x1, y0, y1, bf0, bf1, gf0, gf1, xf0, xf1, yf0, yf1, hbr⟩ := HI.out
      clear HI
      obtain ⟨v1, h1⟩ : ∃ z : Int, ((rk t p (a, s) k).1 : Int) = z := ⟨_, rfl⟩
      obtain ⟨v2, h2⟩ : ∃ z : Int, ((rk t p (a, s) k).2 : Int) = z := ⟨_, rfl⟩
      obtain ⟨v3, h3⟩ : ∃ z : Int, ((a - (rk t p (a, s) k).1 : Nat) : Int) = z := ⟨_, rfl⟩
      obtain ⟨v4, h4⟩ : ∃ z : Int, ((s - (rk t p (a, s) k).2 : Nat) : Int) = z := ⟨_, rfl⟩
      rw [h1] at b0
      rw [h2] at b1
      rw [h3] at g0
      rw [h4] at g1
      have HE : Hid ((((rk t p (a, s) k).1 : Int) = v1 ∧ ((rk t p (a, s) k).2 : Int) = v2) ∧ ((a - (rk t p (a, s) k).1 : Nat) : Int) = v3 ∧ ((s - (rk t p (a, s) k).2 : Nat) : Int) = v4) := Lib.hid ⟨⟨h1, h2⟩, h3, h4⟩
      clear h1 h2 h3 h4
      go_wp2_with fail
      go_region
      all_goals
        go_wp2_with fail
        refine bodyPost_ret (v := .tuple #[.agg #[.int .i64 v1, .int .i64 v2], .agg #[.int .i64 v3, .int .i64 v4], .int .i64 0]) (by simp [results, Try.results18, go_sem, *]) rfl ⟨by rw [HE.out.1.1, HE.out.1.2, HE.out.2.1, HE.out.2.2], ?_⟩
        exact Below.drew ((((hbr.setCell (by simp <;> omega) _).setCell (by simp <;> omega) _).setCell (by simp <;> omega) _).setCell (by simp <;> omega) _)

open Go.RowKit Go.Lib Go.Shelf
set_option linter.unusedVariables false
set_option linter.unusedSimpArgs false
attribute [local go_sem ↓] Go.wp_at_zero Go.wp_at_succ

def rdE (a s t p R : Int) : Int := if spB a s = true then (if ((decide (0 ≤ t) && decide (t ≤ 10000)) && (decide (0 ≤ p) && decide (p ≤ 10000))) && (decide (0 ≤ R) && decide (R ≤ 200)) then 0 else 3) else 2

set_option maxRecDepth 20000 in
set_option maxHeartbeats 2000000 in
theorem rRounds_bad (a s t p R : Int) (h : rdE a s t p R ≠ 0) (w : World) :
    Calls Try.prog 18 #[.agg #[.int .i64 a, .int .i64 s], .int .i64 t, .int .i64 p, .int .i64 R] w fun e w' =>
      e = .returned (.tuple #[.agg #[.int .i64 0, .int .i64 0], .agg #[.int .i64 0, .int .i64 0], .int .i64 (rdE a s t p R)]) ∧ Below w.heap.size w w' := by
  have c1 := Lib.hid (rSap_any a s)
  have c2 := Lib.hid (rIn_any t 0 10000)
  have c3 := Lib.hid (rIn_any p 0 10000)
  have c4 := Lib.hid (rIn_any R 0 200)
  unfold rdE at h ⊢
  generalize spB a s = q1 at *
  generalize (decide (0 ≤ t) && decide (t ≤ 10000)) = q2 at *
  generalize (decide (0 ≤ p) && decide (p ≤ 10000)) = q3 at *
  generalize (decide (0 ≤ R) && decide (R ≤ 200)) = q4 at *
  go_enter Try.func18, Try.ntmps18
  go_wp2_with fail
  refine (c1.out _).mono ?_
  rintro e w1 ⟨rfl, hb⟩
  have b0 := cell_next hb (b := w.heap.size) (o := 0) (by simp <;> omega) (v := some (.int .i64 a)) (by simp [go_sem])
  have b1 := cell_next hb (b := w.heap.size) (o := 1) (by simp <;> omega) (v := some (.int .i64 s)) (by simp [go_sem])
  have x0 := cell_next hb (b := w.heap.size + 1) (o := 0) (by simp) (v := some (.int .i64 0)) (by simp [go_sem])
  have xf0 := frozen_next hb (b := w.heap.size + 1) (o := 0) (by simp) (v := false) (by simp [go_sem])
  have x1 := cell_next hb (b := w.heap.size + 1) (o := 1) (by simp) (v := some (.int .i64 0)) (by simp [go_sem])
  have xf1 := frozen_next hb (b := w.heap.size + 1) (o := 1) (by simp) (v := false) (by simp [go_sem])
  have y0 := cell_next hb (b := w.heap.size + 1 + 1) (o := 0) (by simp) (v := some (.int .i64 0)) (by simp [go_sem])
  have yf0 := frozen_next hb (b := w.heap.size + 1 + 1) (o := 0) (by simp) (v := false) (by simp [go_sem])
  have y1 := cell_next hb (b := w.heap.size + 1 + 1) (o := 1) (by simp) (v := some (.int .i64 0)) (by simp [go_sem])
  have yf1 := frozen_next hb (b := w.heap.size + 1 + 1) (o := 1) (by simp) (v := false) (by simp [go_sem])
  have hz := hb.size
  simp at hz
  have hB := below3 hb
  clear hb
  cases q1
  · clear h c1 c2 c3 c4
    go_wp2_with fail
    refine bodyPost_ret (v := .tuple #[.agg #[.int .i64 0, .int .i64 0], .agg #[.int .i64 0, .int .i64 0], .int .i64 2]) (by simp [results, Try.results18, go_sem, *]) rfl ⟨rfl, ?_⟩
    exact (((hB.setCell (by simp <;> omega) _).setCell (by simp <;> omega) _).setCell (by simp <;> omega) _).setCell (by simp <;> omega) _
  · go_wp2_with fail
    refine (c2.out _).mono ?_
    rintro e w2 ⟨rfl, rfl⟩
    cases q2
    · clear h c1 c2 c3 c4
      go_wp2_with fail
      refine bodyPost_ret (v := .tuple #[.agg #[.int .i64 0, .int .i64 0], .agg #[.int .i64 0, .int .i64 0], .int .i64 3]) (by simp [results, Try.results18, go_sem, *]) rfl ⟨rfl, ?_⟩
      exact (((hB.setCell (by simp <;> omega) _).setCell (by simp <;> omega) _).setCell (by simp <;> omega) _).setCell (by simp <;> omega) _
    · go_wp2_with fail
      refine (c3.out _).mono ?_
      rintro e w2 ⟨rfl, rfl⟩
      cases q3
      · clear h c1 c2 c3 c4
        go_wp2_with fail
        refine bodyPost_ret (v := .tuple #[.agg #[.int .i64 0, .int .i64 0], .agg #[.int .i64 0, .int .i64 0], .int .i64 3]) (by simp [results, Try.results18, go_sem, *]) rfl ⟨rfl, ?_⟩
        exact (((hB.setCell (by simp <;> omega) _).setCell (by simp <;> omega) _).setCell (by simp <;> omega) _).setCell (by simp <;> omega) _
      · go_wp2_with fail
        refine (c4.out _).mono ?_
        rintro e w2 ⟨rfl, rfl⟩
        cases q4
        · clear h c1 c2 c3 c4
          go_wp2_with fail
          refine bodyPost_ret (v := .tuple #[.agg #[.int .i64 0, .int .i64 0], .agg #[.int .i64 0, .int .i64 0], .int .i64 3]) (by simp [results, Try.results18, go_sem, *]) rfl ⟨rfl, ?_⟩
          exact (((hB.setCell (by simp <;> omega) _).setCell (by simp <;> omega) _).setCell (by simp <;> omega) _).setCell (by simp <;> omega) _
        · exact absurd rfl h

open Go.RowKit Go.Lib Go.Shelf
set_option linter.unusedVariables false
set_option linter.unusedSimpArgs false
attribute [local go_sem ↓] Go.wp_at_zero Go.wp_at_succ

set_option maxRecDepth 20000 in
set_option maxHeartbeats 2000000 in
theorem rounds_bad (a s t p R : Int) (h : rdE a s t p R ≠ 0) (w : World) :
    Calls Try.prog 19 #[.agg #[.int .i64 a, .int .i64 s], .int .i64 t, .int .i64 p, .int .i64 R] w fun e w' =>
      e = .returned (.tuple #[.agg #[.int .i64 0, .int .i64 0], .agg #[.int .i64 0, .int .i64 0], .int .i64 (rdE a s t p R)]) ∧ Below w.heap.size w w' := by
  have c1 := Lib.hid (vSap_any a s)
  have c2 := Lib.hid (fun (W : World) (g c : Nat) => in2_any 0 10000 t p g c W)
  have c3 := Lib.hid (fun (W : World) (g c : Nat) => in1v_any 0 200 R g c W)
  unfold rdE at h ⊢
  rw [show ((decide (0 ≤ t) && decide (t ≤ 10000)) && (decide (0 ≤ p) && decide (p ≤ 10000))) = (inB 0 10000 t && inB 0 10000 p) from rfl] at h ⊢
  rw [show (decide (0 ≤ R) && decide (R ≤ 200)) = inB 0 200 R from rfl] at h ⊢
  generalize spB a s = q1 at *
  generalize (inB 0 10000 t && inB 0 10000 p) = q2 at *
  generalize inB 0 200 R = q3 at *
  refine (callsIn_wide (n := 10)).1 (callsIn_of_wp_marks Try.func19 rfl trivial ?_ rfl)
  refine wpIn_mono (wpIn_wide.2 ?_) qm_post
  simp only [Try.ntmps19, List.size_toArray, List.length_cons, List.length_nil, Nat.reduceAdd, Nat.reduceSub, Array.replicate_succ, Array.replicate_zero, List.push_toArray, List.append_toArray, List.nil_append, List.cons_append]
  go_wp2_with fail
  refine (c1.out _).mono ?_
  rintro e w1 ⟨rfl, hb⟩
  have b0 := cell_next hb (b := w.heap.size) (o := 0) (by simp <;> omega) (v := some (.int .i64 a)) (by simp [go_sem])
  have b1 := cell_next hb (b := w.heap.size) (o := 1) (by simp <;> omega) (v := some (.int .i64 s)) (by simp [go_sem])
  have x0 := cell_next hb (b := w.heap.size + 1) (o := 0) (by simp) (v := some (.int .i64 0)) (by simp [go_sem])
  have xf0 := frozen_next hb (b := w.heap.size + 1) (o := 0) (by simp) (v := false) (by simp [go_sem])
  have x1 := cell_next hb (b := w.heap.size + 1) (o := 1) (by simp) (v := some (.int .i64 0)) (by simp [go_sem])
  have xf1 := frozen_next hb (b := w.heap.size + 1) (o := 1) (by simp) (v := false) (by simp [go_sem])
  have y0 := cell_next hb (b := w.heap.size + 1 + 1) (o := 0) (by simp) (v := some (.int .i64 0)) (by simp [go_sem])
  have yf0 := frozen_next hb (b := w.heap.size + 1 + 1) (o := 0) (by simp) (v := false) (by simp [go_sem])
  have y1 := cell_next hb (b := w.heap.size + 1 + 1) (o := 1) (by simp) (v := some (.int .i64 0)) (by simp [go_sem])
  have yf1 := frozen_next hb (b := w.heap.size + 1 + 1) (o := 1) (by simp) (v := false) (by simp [go_sem])
  have hz := hb.size
  simp at hz
  have hB := below3 hb
  clear hb
  cases q1
  · clear h c1 c2 c3
    go_wp2_with fail
    show LeavesInM Fence.wide 10 _ _ _ _ _ .returning _
    refine ⟨.tuple #[.agg #[.int .i64 0, .int .i64 0], .agg #[.int .i64 0, .int .i64 0], .int .i64 2], by simp [results, Try.results19, go_sem, *], rfl, ?_⟩
    exact (((hB.setCell (by simp <;> omega) _).setCell (by simp <;> omega) _).setCell (by simp <;> omega) _).setCell (by simp <;> omega) _
  · go_wp2_with fail
    refine (c2.out _ _ _ (by simp) (by simp [go_sem]) (by simp [go_sem])).mono ?_
    rintro e w2 ⟨rfl, hb⟩
    have hb' := below1 hb
    replace x0 := cell_next hb' (by omega) x0
    replace x1 := cell_next hb' (by omega) x1
    replace y0 := cell_next hb' (by omega) y0
    replace y1 := cell_next hb' (by omega) y1
    replace xf0 := frozen_next hb' (by omega) xf0
    replace xf1 := frozen_next hb' (by omega) xf1
    replace yf0 := frozen_next hb' (by omega) yf0
    replace yf1 := frozen_next hb' (by omega) yf1
    replace hz := Nat.le_trans hz hb'.size
    replace hB := hB.trans (hb'.mono hB.size)
    clear hb hb' b0 b1
    cases q2
    · clear h c1 c2 c3
      go_wp2_with fail
      show LeavesInM Fence.wide 10 _ _ _ _ _ .returning _
      refine ⟨.tuple #[.agg #[.int .i64 0, .int .i64 0], .agg #[.int .i64 0, .int .i64 0], .int .i64 3], by simp [results, Try.results19, go_sem, *], rfl, ?_⟩
      exact (((hB.setCell (by simp <;> omega) _).setCell (by simp <;> omega) _).setCell (by simp <;> omega) _).setCell (by simp <;> omega) _
    · go_wp2_with fail
      refine (c3.out _ _ _ (by simp) (by simp [go_sem])).mono ?_
      rintro e w2 ⟨rfl, hb⟩
      have hb' := below1 hb
      replace x0 := cell_next hb' (by omega) x0
      replace x1 := cell_next hb' (by omega) x1
      replace y0 := cell_next hb' (by omega) y0
      replace y1 := cell_next hb' (by omega) y1
      replace xf0 := frozen_next hb' (by omega) xf0
      replace xf1 := frozen_next hb' (by omega) xf1
      replace yf0 := frozen_next hb' (by omega) yf0
      replace yf1 := frozen_next hb' (by omega) yf1
      replace hz := Nat.le_trans hz hb'.size
      replace hB := hB.trans (hb'.mono hB.size)
      clear hb hb'
      cases q3
      · clear h c1 c2 c3
        go_wp2_with fail
        show LeavesInM Fence.wide 10 _ _ _ _ _ .returning _
        refine ⟨.tuple #[.agg #[.int .i64 0, .int .i64 0], .agg #[.int .i64 0, .int .i64 0], .int .i64 3], by simp [results, Try.results19, go_sem, *], rfl, ?_⟩
        exact (((hB.setCell (by simp <;> omega) _).setCell (by simp <;> omega) _).setCell (by simp <;> omega) _).setCell (by simp <;> omega) _
      · exact absurd rfl h

theorem nat_of {z : Int} (h : 0 ≤ z) : ∃ n : Nat, z = (n : Int) := ⟨z.toNat, by omega⟩
theorem rd_ok {a s t p R : Int} (h : rdE a s t p R = 0) : (0 ≤ a ∧ a ≤ 1000000000000 ∧ 0 ≤ s ∧ s ≤ 1000000000000) ∧ (0 ≤ t ∧ t ≤ 10000) ∧ (0 ≤ p ∧ p ≤ 10000) ∧ 0 ≤ R ∧ R ≤ 200 := by
  unfold rdE at h
  by_cases h1 : spB a s = true
  · rw [if_pos h1] at h
    by_cases h2 : (((decide (0 ≤ t) && decide (t ≤ 10000)) && (decide (0 ≤ p) && decide (p ≤ 10000))) && (decide (0 ≤ R) && decide (R ≤ 200))) = true
    · obtain ⟨b1, b2, b3, b4⟩ := spB_of h1
      simp at h2
      omega
    · rw [if_neg h2] at h; cases h
  · rw [if_neg h1] at h; cases h
/-- what rounds answer, whatever they are asked -/
def rdV (a s t p R : Int) : Value := if rdE a s t p R = 0 then .tuple #[.agg #[.int .i64 ((rk t.toNat p.toNat (a.toNat, s.toNat) R.toNat).1 : Nat), .int .i64 ((rk t.toNat p.toNat (a.toNat, s.toNat) R.toNat).2 : Nat)], .agg #[.int .i64 ((a.toNat - (rk t.toNat p.toNat (a.toNat, s.toNat) R.toNat).1 : Nat) : Int), .int .i64 ((s.toNat - (rk t.toNat p.toNat (a.toNat, s.toNat) R.toNat).2 : Nat) : Int)], .int .i64 0]
  else .tuple #[.agg #[.int .i64 0, .int .i64 0], .agg #[.int .i64 0, .int .i64 0], .int .i64 (rdE a s t p R)]
theorem rounds_any (a s t p R : Int) (w : World) : Calls Try.prog 19 #[.agg #[.int .i64 a, .int .i64 s], .int .i64 t, .int .i64 p, .int .i64 R] w fun e w' => e = .returned (rdV a s t p R) ∧ Below w.heap.size w w' := by
  by_cases h : rdE a s t p R = 0
  · obtain ⟨⟨h1, h2, h3, h4⟩, ⟨h5, h6⟩, ⟨h7, h8⟩, h9, h10⟩ := rd_ok h
    unfold rdV
    rw [if_pos h]
    obtain ⟨a, rfl⟩ := nat_of h1
    obtain ⟨s, rfl⟩ := nat_of h3
    obtain ⟨t, rfl⟩ := nat_of h5
    obtain ⟨p, rfl⟩ := nat_of h7
    obtain ⟨R, rfl⟩ := nat_of h9
    exact rounds_ok a s t p R (by omega) (by omega) (by omega) (by omega) (by omega) w
  · unfold rdV
    rw [if_neg h]
    exact rounds_bad a s t p R h w
theorem rRounds_any (a s t p R : Int) (w : World) : Calls Try.prog 18 #[.agg #[.int .i64 a, .int .i64 s], .int .i64 t, .int .i64 p, .int .i64 R] w fun e w' => e = .returned (rdV a s t p R) ∧ Below w.heap.size w w' := by
  by_cases h : rdE a s t p R = 0
  · obtain ⟨⟨h1, h2, h3, h4⟩, ⟨h5, h6⟩, ⟨h7, h8⟩, h9, h10⟩ := rd_ok h
    unfold rdV
    rw [if_pos h]
    obtain ⟨a, rfl⟩ := nat_of h1
    obtain ⟨s, rfl⟩ := nat_of h3
    obtain ⟨t, rfl⟩ := nat_of h5
    obtain ⟨p, rfl⟩ := nat_of h7
    obtain ⟨R, rfl⟩ := nat_of h9
    exact rRounds_ok a s t p R (by omega) (by omega) (by omega) (by omega) (by omega) w
  · unfold rdV
    rw [if_neg h]
    exact rRounds_bad a s t p R h w
end Go.Proofs.Ytbmjkmepjggkfaa
