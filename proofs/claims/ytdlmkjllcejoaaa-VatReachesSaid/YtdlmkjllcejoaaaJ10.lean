/- Contracts: U26, U27, joined. -/
import Derived.Test.YtdlmkjllcejoaaaJ11
import Derived.Lib.RabinKarpLaws
import Derived.Test.YtdlmkjllcejoaaaRI
namespace Go.Proofs.Ytdlmkjllcejoaaa
open Go.RowKit Go.Lib Go.Shelf
set_option linter.unusedVariables false
set_option linter.unusedSimpArgs false
attribute [local go_sem ↓] Go.wp_at_zero Go.wp_at_succ

theorem and_i64 (a b : Nat) (ha : a < 4611686018427387904) (hb : b < 4611686018427387904) : bits .and .i64 (a : Int) (b : Int) = ((a &&& b : Nat) : Int) := by
  have hx : a &&& b < 2 ^ 62 := Nat.and_lt_two_pow _ (by omega)
  have h1 : (BitVec.ofInt 64 (a : Int)).toNat = a := by
    rw [BitVec.ofInt_natCast, BitVec.toNat_ofNat]; exact Nat.mod_eq_of_lt (by omega)
  have h2 : (BitVec.ofInt 64 (b : Int)).toNat = b := by
    rw [BitVec.ofInt_natCast, BitVec.toNat_ofNat]; exact Nat.mod_eq_of_lt (by omega)
  show IntKind.i64.wrap ((BitVec.ofInt 64 (a : Int) &&& BitVec.ofInt 64 (b : Int)).toNat : Int) = _
  rw [BitVec.toNat_and, h1, h2]
  exact IntWalk.i64_in _ (by omega)
theorem pow_le62 (k : Nat) (hk : k ≤ 61) : 2 ^ k ≤ 2305843009213693952 := Nat.pow_le_pow_right (n := 2) (by omega) hk
theorem and_pow (a k : Nat) (ha : a < 4611686018427387904) (hk : k ≤ 61) : bits .and .i64 (a : Int) ((2 ^ k : Nat) : Int) = ((a / 2 ^ k % 2 * 2 ^ k : Nat) : Int) := by
  have e : a &&& 2 ^ k = if a.testBit k then 2 ^ k else 0 := by
    apply Nat.eq_of_testBit_eq
    intro i
    rw [Nat.testBit_and, Nat.testBit_two_pow]
    by_cases hi : k = i
    · subst hi
      cases h : a.testBit k <;> simp [Nat.testBit_two_pow]
    · cases h : a.testBit k <;> simp [Nat.testBit_two_pow, hi]
  rw [and_i64 a (2 ^ k) ha (by have := pow_le62 k hk; omega), e, Nat.testBit_eq_decide_div_mod_eq]
  rcases Nat.mod_two_eq_zero_or_one (a / 2 ^ k) with h | h <;> simp [h]
theorem half_div (b k : Nat) : b / 2 ^ k = 2 * (b / 2 ^ (k + 1)) + b / 2 ^ k % 2 := by
  rw [Nat.pow_succ, ← Nat.div_div_eq_div_mul]
  omega
theorem quo_le {q c r a B : Nat} (h : q * c + r = a * B) (hac : a ≤ c) (hc : 0 < c) : q ≤ B := by
  have h1 : q * c ≤ B * c := by
    have := Nat.mul_le_mul_right B hac
    rw [Nat.mul_comm B c]
    omega
  exact Nat.le_of_mul_le_mul_right h1 hc
def bitOf (k : Nat) : Nat := 2 ^ k / 2
theorem bitOf_succ (k : Nat) : bitOf (k + 1) = 2 ^ k := by simp [bitOf, Nat.pow_succ]
theorem bitOf_half (k : Nat) : bitOf (k + 1) / 2 = bitOf k := by rw [bitOf_succ]; rfl

set_option maxRecDepth 20000 in
set_option maxHeartbeats 1000000 in
theorem mulDiv_any (a b c : Nat) (hc : 0 < c) (hac : a ≤ c) (hcm : c ≤ 1000000000000000000) (hb : b < 4611686018427387904) (w : World) :
    Calls Try.prog 157 #[.int .i64 (a : Int), .int .i64 (b : Int), .int .i64 (c : Int)] w fun e w' => e = .returned (.int .i64 ((a * b / c : Nat) : Int)) ∧ Below w.heap.size w w' := by
  go_enter Try.func157, Try.ntmps157
  go_wp2_with fail
  go_loopw [9, 7, 8] (fun i x y wr => ∃ k q r : Nat, k ≤ 62 ∧ i = .int .i64 (bitOf k : Nat) ∧ x = .int .i64 (q : Int) ∧ y = .int .i64 (r : Int) ∧ Hid (q * c + r = a * (b / 2 ^ k)) ∧ Hid (r < c) ∧ wr = w) (fun i _ _ _ => (RowKit.intOf i).toNat)
  case atStart => exact ⟨62, 0, 0, by omega, rfl, rfl, rfl, Lib.hid (by rw [Nat.div_eq_of_lt (by omega)]; simp), Lib.hid hc, rfl⟩
  case round =>
    obtain ⟨k, q, r, hk, rfl, rfl, rfl, HE, HR, rfl⟩ := hrel
    rcases k with _ | k
    · rw [show bitOf 0 = 0 from rfl]
      have hq : Hid (q = a * b / c) := Lib.hid (by
        have h := HE.out
        rw [Nat.pow_zero, Nat.div_one] at h
        rw [← h, Nat.add_comm, Nat.add_mul_div_right _ _ hc, Nat.div_eq_of_lt HR.out, Nat.zero_add])
      clear HE HR
      go_wp2_with fail
      go_ret
      exact ⟨by first | rfl | rw [hq.out]; rfl | (rw [← hq.out]; rfl), Below.refl _ _⟩
    · have hT := pow_le62 k (by omega)
      have hT0 : 0 < 2 ^ k := Nat.two_pow_pos k
      have hA := and_pow b k hb (by omega)
      have hBk := half_div b k
      have hHalf := bitOf_half k
      have hq0 := quo_le HE.out hac hc
      have hr0 := HR.out
      have hBb : b / 2 ^ k ≤ b := Nat.div_le_self _ _
      rw [bitOf_succ] at hHalf ⊢
      obtain ⟨B, hB⟩ : ∃ B, b / 2 ^ (k + 1) = B := ⟨_, rfl⟩
      obtain ⟨d, hd⟩ : ∃ d, b / 2 ^ k % 2 = d := ⟨_, rfl⟩
      have hd2 : d = 0 ∨ d = 1 := by omega
      have HE' : q * c + r = a * B := by rw [← hB]; exact HE.out
      rw [hd] at hA hBk
      rw [hB] at hBk hq0
      rw [hBk] at hBb
      obtain ⟨T, hTe⟩ : ∃ T, 2 ^ k = T := ⟨_, rfl⟩
      rw [hTe] at hT hT0 hA hHalf ⊢
      have HBk := Lib.hid hBk
      have HH := Lib.hid hHalf
      have hw1 : IntKind.i64.wrap (2 * (q : Int)) = ((2 * q : Nat) : Int) := by rw [show (2 * (q : Int)) = ((2 * q : Nat) : Int) from by omega]; exact IntWalk.i64_in _ (by omega)
      have hw2 : IntKind.i64.wrap (2 * (r : Int)) = ((2 * r : Nat) : Int) := by rw [show (2 * (r : Int)) = ((2 * r : Nat) : Int) from by omega]; exact IntWalk.i64_in _ (by omega)
      have hw3 : IntKind.i64.wrap (((2 * r : Nat) : Int) + (a : Int)) = ((2 * r + a : Nat) : Int) := by rw [show (((2 * r : Nat) : Int) + (a : Int)) = ((2 * r + a : Nat) : Int) from by omega]; exact IntWalk.i64_in _ (by omega)
      have HN : Hid ((2 * q) * c + (2 * r + a * d) = a * (2 * B + d)) := Lib.hid (by
        rw [Nat.mul_add, Nat.mul_assoc, ← Nat.add_assoc, ← Nat.mul_add, HE', Nat.mul_left_comm])
      clear hHalf hBk HE HE' HR hTe hd hB
      rcases hd2 with rfl | rfl
      · rw [Nat.zero_mul] at hA
        rw [Nat.mul_zero, Nat.add_zero] at HN
        go_wp2_with fail
        have HN2 : Hid (2 * q * c + (2 * r) = a * (2 * B + 0)) := HN
        clear HN hA hw1 hw2 hw3
        obtain ⟨wo, hwo⟩ : ∃ wo, wo = wr := ⟨_, rfl⟩
        subst hwo
        go_loopw [7, 8] (fun x y wr => ∃ q1 r1 : Nat, x = .int .i64 (q1 : Int) ∧ y = .int .i64 (r1 : Int) ∧ Hid (q1 * c + r1 = a * (2 * B + 0)) ∧ Hid (r1 ≤ 3 * c) ∧ wr = wo) (fun _ y _ => (RowKit.intOf y).toNat)
        case atStart => exact ⟨2 * q, 2 * r, by first | rfl | go_num, by first | rfl | go_num, HN2, Lib.hid (by omega), rfl⟩
        case round =>
          obtain ⟨q1, r1, rfl, rfl, HE, HR, rfl⟩ := hrel
          have hq1 := quo_le HE.out hac hc
          have hr1 := HR.out
          by_cases hge : c ≤ r1
          · have w4 : IntKind.i64.wrap ((q1 : Int) + 1) = ((q1 + 1 : Nat) : Int) := by rw [show ((q1 : Int) + 1) = ((q1 + 1 : Nat) : Int) from by omega]; exact IntWalk.i64_in _ (by omega)
            have w5 : IntKind.i64.wrap ((r1 : Int) - (c : Int)) = ((r1 - c : Nat) : Int) := by rw [show ((r1 : Int) - (c : Int)) = ((r1 - c : Nat) : Int) from by omega]; exact IntWalk.i64_in _ (by omega)
            have HE3 : Hid ((q1 + 1) * c + (r1 - c) = a * (2 * B + 0)) := Lib.hid (by rw [Nat.succ_mul]; have := HE.out; omega)
            have HR3 : Hid (r1 - c ≤ 3 * c) := Lib.hid (by omega)
            clear HE HR hq1 hr1
            go_wp2_with fail
            go_roundw
            case measure => simp [RowKit.intOf]; omega
            exact ⟨q1 + 1, r1 - c, by first | rfl | go_num, by first | rfl | go_num, HE3, HR3, by first | rfl | trivial⟩
          · have HR3 : Hid (r1 < c) := Lib.hid (by omega)
            have HE3 : Hid (q1 * c + r1 = a * (b / 2 ^ k)) := Lib.hid (by rw [HBk.out]; exact HE.out)
            clear HE HR hq1 hr1 HN2
            go_wp2_with fail
            exact ⟨⟨k, q1, r1, by omega, by rw [← HH.out]; simp, rfl, rfl, HE3, HR3, by first | rfl | trivial⟩, by simp [RowKit.intOf]; omega⟩
      · rw [Nat.one_mul] at hA
        rw [Nat.mul_one] at HN
        have hTn : ((T : Int) == 0) = false := by simp; omega
        go_wp2_with fail
        have HN2 : Hid (2 * q * c + (2 * r + a) = a * (2 * B + 1)) := HN
        clear HN hA hw1 hw2 hw3
        obtain ⟨wo, hwo⟩ : ∃ wo, wo = wr := ⟨_, rfl⟩
        subst hwo
        go_loopw [7, 8] (fun x y wr => ∃ q1 r1 : Nat, x = .int .i64 (q1 : Int) ∧ y = .int .i64 (r1 : Int) ∧ Hid (q1 * c + r1 = a * (2 * B + 1)) ∧ Hid (r1 ≤ 3 * c) ∧ wr = wo) (fun _ y _ => (RowKit.intOf y).toNat)
        case atStart => exact ⟨2 * q, 2 * r + a, by first | rfl | go_num, by first | rfl | go_num, HN2, Lib.hid (by omega), rfl⟩
        case round =>
          obtain ⟨q1, r1, rfl, rfl, HE, HR, rfl⟩ := hrel
          have hq1 := quo_le HE.out hac hc
          have hr1 := HR.out
          by_cases hge : c ≤ r1
          · have w4 : IntKind.i64.wrap ((q1 : Int) + 1) = ((q1 + 1 : Nat) : Int) := by rw [show ((q1 : Int) + 1) = ((q1 + 1 : Nat) : Int) from by omega]; exact IntWalk.i64_in _ (by omega)
            have w5 : IntKind.i64.wrap ((r1 : Int) - (c : Int)) = ((r1 - c : Nat) : Int) := by rw [show ((r1 : Int) - (c : Int)) = ((r1 - c : Nat) : Int) from by omega]; exact IntWalk.i64_in _ (by omega)
            have HE3 : Hid ((q1 + 1) * c + (r1 - c) = a * (2 * B + 1)) := Lib.hid (by rw [Nat.succ_mul]; have := HE.out; omega)
            have HR3 : Hid (r1 - c ≤ 3 * c) := Lib.hid (by omega)
            clear HE HR hq1 hr1
            go_wp2_with fail
            go_roundw
            case measure => simp [RowKit.intOf]; omega
            exact ⟨q1 + 1, r1 - c, by first | rfl | go_num, by first | rfl | go_num, HE3, HR3, by first | rfl | trivial⟩
          · have HR3 : Hid (r1 < c) := Lib.hid (by omega)
            have HE3 : Hid (q1 * c + r1 = a * (b / 2 ^ k)) := Lib.hid (by rw [HBk.out]; exact HE.out)
            clear HE HR hq1 hr1 HN2
            go_wp2_with fail
            exact ⟨⟨k, q1, r1, by omega, by rw [← HH.out]; simp, rfl, rfl, HE3, HR3, by first | rfl | trivial⟩, by simp [RowKit.intOf]; omega⟩

open Go.RowKit Go.Lib Go.Shelf
set_option linter.unusedVariables false
set_option linter.unusedSimpArgs false
attribute [local go_sem ↓] Go.wp_at_zero Go.wp_at_succ

set_option maxHeartbeats 1000000 in
theorem rSap_any (a s : Int) (w : World) :
    Calls Try.prog 53 #[.agg #[.int .i64 a, .int .i64 s]] w fun e w' => e = .returned (.bool (spB a s)) ∧ Below w.heap.size w w' := by
  have c1 := Lib.hid (rIn_any a 0 1000000000000)
  have c2 := Lib.hid (rIn_any s 0 1000000000000)
  have hv : Hid (spB a s = ((decide (0 ≤ a) && decide (a ≤ 1000000000000)) && (decide (0 ≤ s) && decide (s ≤ 1000000000000)))) := Lib.hid (by simp [spB, Bool.and_assoc])
  generalize (decide (0 ≤ a) && decide (a ≤ 1000000000000)) = p at *
  generalize (decide (0 ≤ s) && decide (s ≤ 1000000000000)) = q at *
  cases p
  · go_enter Try.func53, Try.ntmps53
    go_wp2_with fail
    refine (c1.out _).mono ?_
    rintro e w1 ⟨rfl, rfl⟩
    go_wp2_with fail
    go_ret
    exact ⟨by rw [hv.out]; rfl, (Below.refl _ _).alloc (Nat.le_refl _) _⟩
  · go_enter Try.func53, Try.ntmps53
    go_wp2_with fail
    refine (c1.out _).mono ?_
    rintro e w1 ⟨rfl, rfl⟩
    go_wp2_with fail
    refine (c2.out _).mono ?_
    rintro e w1 ⟨rfl, rfl⟩
    go_wp2_with fail
    go_ret
    exact ⟨by rw [hv.out]; rfl, (Below.refl _ _).alloc (Nat.le_refl _) _⟩

set_option maxRecDepth 20000 in
set_option maxHeartbeats 1000000 in
theorem rRound_any (a s t p : Nat) (ha : a ≤ 1000000000000) (hs : s ≤ 1000000000000) (ht : t ≤ 10000) (hp : p ≤ 10000) (w : World) :
    Calls Try.prog 118 #[.agg #[.int .i64 (a : Int), .int .i64 (s : Int)], .int .i64 (t : Int), .int .i64 (p : Int)] w fun e w' =>
      e = .returned (.tuple #[.agg #[.int .i64 ((a - offW a t : Nat) : Int), .int .i64 ((s - offS a s t p : Nat) : Int)], .agg #[.int .i64 (offW a t : Nat), .int .i64 (offS a s t p : Nat)]]) ∧ Below w.heap.size w w' := by
  have m1 : a * t ≤ 1000000000000 * 10000 := Nat.mul_le_mul ha ht
  have m2 : s * p ≤ 1000000000000 * 10000 := Nat.mul_le_mul hs hp
  have l1 := offW_le a t ht
  have e1 : IntKind.i64.wrap ((a : Int) * (t : Int)) = ((a * t : Nat) : Int) := by rw [Int.natCast_mul]; exact IntWalk.i64_in _ (by rw [← Int.natCast_mul]; omega)
  have e2 : ((a * t : Nat) : Int) / 10000 = ((offW a t : Nat) : Int) := by unfold offW; rw [Int.natCast_ediv]; rfl
  have e2' : wrap64 (((a * t : Nat) : Int).tdiv 10000) = ((offW a t : Nat) : Int) := by rw [Int.tdiv_eq_ediv_of_nonneg (by omega), e2]; exact IntWalk.wrap64_in _ (by omega)
  have e3 : IntKind.i64.wrap ((s : Int) * (p : Int)) = ((s * p : Nat) : Int) := by rw [Int.natCast_mul]; exact IntWalk.i64_in _ (by rw [← Int.natCast_mul]; omega)
  have e4 : IntKind.i64.wrap ((a : Int) * 10000) = ((a * 10000 : Nat) : Int) := by rw [show ((a : Int) * 10000) = ((a * 10000 : Nat) : Int) from by omega]; exact IntWalk.i64_in _ (by omega)
  have l2 : offS a s t p ≤ s := offS_le a s t p ht hp
  have e5 : IntKind.i64.wrap ((a : Int) - ((offW a t : Nat) : Int)) = ((a - offW a t : Nat) : Int) := by rw [show ((a : Int) - ((offW a t : Nat) : Int)) = ((a - offW a t : Nat) : Int) from by omega]; exact IntWalk.i64_in _ (by omega)
  have e6 : IntKind.i64.wrap ((s : Int) - ((offS a s t p : Nat) : Int)) = ((s - offS a s t p : Nat) : Int) := by rw [show ((s : Int) - ((offS a s t p : Nat) : Int)) = ((s - offS a s t p : Nat) : Int) from by omega]; exact IntWalk.i64_in _ (by omega)
  have hM : (0 : Int) ≤ ((a * t : Nat) : Int) := by omega
  by_cases h0 : a = 0
  · subst h0
    have o1 : offW 0 t = 0 := by simp [offW]
    have o2 : offS 0 s t p = 0 := by simp [offS]
    rw [o1, o2]
    simp only [Nat.sub_zero, Nat.zero_sub]
    have e7 : IntKind.i64.wrap (0 * (t : Int)) = 0 := by simp [IntKind.wrap_i64]
    have e8 : IntKind.i64.wrap (s : Int) = s := IntWalk.i64_in _ (by omega)
    clear e1 e2 e2' e3 e4 e5 e6 m1 m2 l1 l2 hM
    go_enter Try.func118, Try.ntmps118
    go_wp2_with fail
    go_region
    all_goals
      go_wp2_with fail
      refine bodyPost_ret (v := .tuple #[.agg #[.int .i64 0, .int .i64 (s : Int)], .agg #[.int .i64 0, .int .i64 0]]) (by simp [results, Try.results118, go_sem, *]) rfl ⟨rfl, ?_⟩
      refine Below.drew ?_
      exact ((((Below.refl _ _).alloc (Nat.le_refl _) _).alloc (by simp) _).alloc (by simp <;> omega) _).alloc (by simp <;> omega) _
  · have hA : (0 : Int) < (a : Int) := by omega
    have cm := Lib.hid (mulDiv_any (offW a t) (s * p) (a * 10000) (by omega) (by omega) (by omega) (by omega))
    rw [show offW a t * (s * p) / (a * 10000) = offS a s t p from by unfold offS; rw [Nat.mul_comm (offW a t)]] at cm
    clear m1 m2 l1 l2 h0 ha hs ht hp
    generalize ((a * t : Nat) : Int) = M at *
    generalize ((offW a t : Nat) : Int) = G at *
    generalize ((s * p : Nat) : Int) = SP at *
    generalize ((a * 10000 : Nat) : Int) = CC at *
    generalize ((offS a s t p : Nat) : Int) = Q at *
    generalize ((a - offW a t : Nat) : Int) = RA at *
    generalize ((s - offS a s t p : Nat) : Int) = RS at *
    generalize (a : Int) = A at *
    generalize (s : Int) = S at *
    generalize (t : Int) = T at *
    generalize (p : Int) = P at *
    go_enter Try.func118, Try.ntmps118
    go_wp2_with fail
    refine (cm.out _).mono ?_
    rintro e w1 ⟨rfl, hb⟩
    have b0 := cell_next hb (b := w.heap.size) (o := 0) (by simp <;> omega) (v := some (.int .i64 A)) (by simp [go_sem])
    have b1 := cell_next hb (b := w.heap.size) (o := 1) (by simp <;> omega) (v := some (.int .i64 S)) (by simp [go_sem])
    have x0 := cell_next hb (b := w.heap.size + 1) (o := 0) (by simp <;> omega) (v := some (.int .i64 0)) (by simp [go_sem])
    have x1 := cell_next hb (b := w.heap.size + 1) (o := 1) (by simp <;> omega) (v := some (.int .i64 0)) (by simp [go_sem])
    have y0 := cell_next hb (b := w.heap.size + 1 + 1) (o := 0) (by simp <;> omega) (v := some (.int .i64 0)) (by simp [go_sem])
    have y1 := cell_next hb (b := w.heap.size + 1 + 1) (o := 1) (by simp <;> omega) (v := some (.int .i64 0)) (by simp [go_sem])
    have z0 := cell_next hb (b := w.heap.size + 1 + 1 + 1) (o := 0) (by simp) (v := some (.int .i64 G)) (by simp [go_sem])
    have z1 := cell_next hb (b := w.heap.size + 1 + 1 + 1) (o := 1) (by simp) (v := some (.int .i64 0)) (by simp [go_sem])
    have xf0 := frozen_next hb (b := w.heap.size + 1) (o := 0) (by simp <;> omega) (v := false) (by simp [go_sem])
    have xf1 := frozen_next hb (b := w.heap.size + 1) (o := 1) (by simp <;> omega) (v := false) (by simp [go_sem])
    have yf0 := frozen_next hb (b := w.heap.size + 1 + 1) (o := 0) (by simp <;> omega) (v := false) (by simp [go_sem])
    have yf1 := frozen_next hb (b := w.heap.size + 1 + 1) (o := 1) (by simp <;> omega) (v := false) (by simp [go_sem])
    have zf1 := frozen_next hb (b := w.heap.size + 1 + 1 + 1) (o := 1) (by simp) (v := false) (by simp [go_sem])
    have hB := below3 (below1 hb)
    have hz := hb.size
    simp at hz
    clear hb cm
    go_wp2_with fail
    go_region
    all_goals
      go_wp2_with fail
      refine bodyPost_ret (v := .tuple #[.agg #[.int .i64 RA, .int .i64 RS], .agg #[.int .i64 G, .int .i64 Q]]) (by simp [results, Try.results118, go_sem, *]) rfl ⟨rfl, ?_⟩
      exact Below.drew (((((hB.setCell (by simp <;> omega) _).setCell (by simp <;> omega) _).setCell (by simp <;> omega) _).setCell (by simp <;> omega) _).setCell (by simp <;> omega) _)
end Go.Proofs.Ytdlmkjllcejoaaa
