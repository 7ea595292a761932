/- Plain: behind rounds sap is no less concentrated, and less water must go off; the fixed calls of chapters 1 and 6. -/
import Derived.Test.YtfdaiififoomoaaJB9
import Derived.Test.YtfdaiififoomoaaJB11
namespace Go.Proofs.Ytfdaiififoomoaa
open Go.RowKit Go.Lib Go.Shelf
set_option linter.unusedVariables false
set_option linter.unusedSimpArgs false
attribute [local go_sem ↓] Go.wp_at_zero Go.wp_at_succ

theorem brix_nat (a s : Nat) (ha : a ≤ 1000000000000) (hs : s ≤ 1000000000000) (hm : 0 < a + s) :
    brE a s = 0 ∧ brL a s = ((s * 10000 / (a + s) : Nat) : Int) ∧ brH a s = -((-((s : Int) * 10000)) / ((a : Int) + s)) := by
  have hE : brE a s = 0 := by
    unfold brE
    rw [if_pos (by simp [spB]; omega), if_neg (by omega)]
  have hq := q_pos (a := (s : Int)) (b := 10000) (c := (a : Int) + s) (by omega) (by
    refine Nat.le_trans (Nat.div_le_self _ _) ?_
    show (s : Int).natAbs * 10000 ≤ _
    omega)
  refine ⟨hE, ?_, ?_⟩
  · unfold brL
    rw [if_pos hE, hq.1]
    rw [Int.natCast_ediv, Int.natCast_mul, Int.natCast_add]
    rfl
  · unfold brH
    rw [if_pos hE, hq.2]

theorem boil_nat (a s b : Nat) (ha : a ≤ 1000000000000) (hs : s ≤ 1000000000000) (hs1 : 0 < s) (hb : 1 ≤ b) (hb2 : b ≤ 10000) :
    boilE a s b = 0 ∧ boilW a s b = max 0 (((a + s : Nat) : Int) - ((s * 10000 / b : Nat) : Int)) := by
  have hE : cbE a s b = 0 := by
    unfold cbE
    rw [if_pos (by simp [spB]; omega), if_neg (by omega), if_neg (by omega)]
  refine ⟨hE, ?_⟩
  unfold boilW
  rw [if_pos hE, Int.natCast_ediv, Int.natCast_mul, Int.natCast_add]
  rfl

structure Conc (a s p t K1 K2 G1 G2 : Nat) : Prop where
  hw : K1 + G1 = a
  hs : K2 + G2 = s
  hz : K1 + K2 = 0 → 0 < p ∧ t = 10000
  e0 : brE a s = 0
  h0 : 0 ≤ brH a s
  h1 : brH a s ≤ 10000
  hK : 0 < K1 + K2 → 0 < K2 ∧ brE K1 K2 = 0 ∧ brL a s ≤ brL K1 K2 ∧ brH a s ≤ brH K1 K2
  hb : 0 < K1 + K2 → ∀ b : Nat, 1 ≤ b → b ≤ 10000 → brH a s ≤ b → boilE a s b = 0 ∧ boilE K1 K2 b = 0 ∧ boilW K1 K2 b ≤ boilW a s b ∧ 0 ≤ boilW a s b ∧ boilW a s b ≤ 10000000000000 ∧ (p = 0 → boilW K1 K2 b = max 0 (boilW a s b - (G1 : Int)))

theorem conc_of (a s t p R : Nat) (ha1 : 0 < a) (ha : a ≤ 1000000000000) (hs1 : 0 < s) (hs : s ≤ 1000000000000) (ht : t ≤ 10000) (hp : p ≤ 10000) :
    Conc a s p t (rk t p (a, s) R).1 (rk t p (a, s) R).2 (a - (rk t p (a, s) R).1) (s - (rk t p (a, s) R).2) := by
  have hle := rk_le t p (a, s) R
  have hc := rk_conc t p (a, s) ht hp R
  have hp0 := rk_pass0 t (a, s) R
  have hwt := fun h => rk_water t p (a, s) h ha1 R
  have hP : p = 0 → (rk t p (a, s) R).2 = s := fun h => by subst h; exact hp0
  clear hp0
  generalize (rk t p (a, s) R).1 = K1 at *
  generalize (rk t p (a, s) R).2 = K2 at *
  obtain ⟨l1, l2⟩ := hle
  simp only at hc l1 l2
  obtain ⟨hE, hL, hH⟩ := brix_nat a s ha hs (by omega)
  have hK2 : 0 < K1 + K2 → 0 < K2 := fun h => by
    rcases Nat.eq_zero_or_pos K2 with rfl | h2
    · rw [Nat.zero_mul] at hc
      rcases Nat.mul_eq_zero.1 (Nat.le_zero.1 hc) with h3 | h3 <;> omega
    · exact h2
  have hcH : (s : Int) * 10000 ≤ brH a s * ((a : Int) + s) := by rw [hH]; exact ce_ge (by omega)
  have hH1 : brH a s ≤ 10000 := by rw [hH]; exact ce_le (by omega) (by omega)
  have hH0 : 0 ≤ brH a s := by
    rcases Int.lt_or_le (brH a s) 0 with h | h
    · have h5 : brH a s * ((a : Int) + s) ≤ 0 := Int.mul_nonpos_of_nonpos_of_nonneg (by omega) (by omega)
      omega
    · exact h
  refine ⟨by omega, by omega, fun hz => ⟨?_, ?_⟩, hE, hH0, hH1, fun hk => ?_, fun hk b hb1 hb2 hb3 => ?_⟩
  · rcases Nat.eq_zero_or_pos p with h | h
    · have := hP h; omega
    · exact h
  · rcases Nat.lt_or_ge t 10000 with h | h
    · have := hwt h; omega
    · omega
  · obtain ⟨hE', hL', hH'⟩ := brix_nat K1 K2 (by omega) (by omega) hk
    refine ⟨hK2 hk, hE', ?_, ?_⟩
    · rw [hL, hL']
      exact Int.ofNat_le.2 (floor_mono 10000 a s K1 K2 hc hs1 hk)
    · have h6 : (K2 : Int) * 10000 ≤ brH K1 K2 * ((K1 : Int) + K2) := by rw [hH']; exact ce_ge (by omega)
      have h7 : 0 ≤ brH K1 K2 := by
        rcases Int.lt_or_le (brH K1 K2) 0 with h | h
        · have h5 : brH K1 K2 * ((K1 : Int) + K2) ≤ 0 := Int.mul_nonpos_of_nonpos_of_nonneg (by omega) (by omega)
          have := hK2 hk
          omega
        · exact h
      obtain ⟨c, hcc⟩ : ∃ c : Nat, brH K1 K2 = c := ⟨(brH K1 K2).toNat, by omega⟩
      rw [hcc] at h6 ⊢
      have h8 := ceil_mono a s K1 K2 c hc hk (hK2 hk) (by
        have : ((K2 * 10000 : Nat) : Int) ≤ ((c * (K1 + K2) : Nat) : Int) := by rw [Int.natCast_mul, Int.natCast_mul, Int.natCast_add]; exact h6
        omega)
      rw [hH]
      refine ce_le (by omega) ?_
      have : ((s * 10000 : Nat) : Int) ≤ ((c * (a + s) : Nat) : Int) := Int.ofNat_le.2 h8
      rw [Int.natCast_mul, Int.natCast_mul, Int.natCast_add] at this
      exact this
  · obtain ⟨x1, x2⟩ := boil_nat a s b ha hs hs1 hb1 hb2
    obtain ⟨y1, y2⟩ := boil_nat K1 K2 b (by omega) (by omega) (hK2 hk) hb1 hb2
    have h9 : s * 10000 ≤ b * (a + s) := by
      have h10 : brH a s * ((a : Int) + s) ≤ b * ((a : Int) + s) := Int.mul_le_mul_of_nonneg_right hb3 (by omega)
      have : ((s * 10000 : Nat) : Int) ≤ ((b * (a + s) : Nat) : Int) := by rw [Int.natCast_mul, Int.natCast_mul, Int.natCast_add]; exact Int.le_trans hcH h10
      omega
    have h11 := boil_less a s K1 K2 b hc l1 l2 hs1 hb1 hb2 h9
    have h12 : p = 0 → K2 * 10000 / b = s * 10000 / b := fun h => by rw [hP h]
    have h13 : s * 10000 / b ≤ s * 10000 := Nat.div_le_self _ _
    rw [x2, y2]
    clear x2 y2 hL hH hcH hE hc hwt
    obtain ⟨F0, hF0⟩ : ∃ F, s * 10000 / b = F := ⟨_, rfl⟩
    obtain ⟨Fk, hFk⟩ : ∃ F, K2 * 10000 / b = F := ⟨_, rfl⟩
    rw [hF0, hFk] at h11 h12
    rw [hF0] at h13
    rw [hF0, hFk]
    clear hF0 hFk
    refine ⟨x1, y1, by omega, by omega, by omega, fun h => ?_⟩
    have h14 := hP h
    have h15 := h12 h
    omega

/-- the fixed calls -/
theorem rk_fixed : rk 5000 200 (900, 100) 1 = (450, 99) := by decide
set_option maxRecDepth 20000 in
set_option maxHeartbeats 1000000 in
theorem linkVat_any (w : World) : Calls Try.prog 15 #[] w fun e w' => e = .returned (.bool true) ∧ Below w.heap.size w w' := by
  have c1 : Hid (∀ w, Calls Try.prog 22 #[.agg #[.int .i64 900, .int .i64 100], .int .i64 5000, .int .i64 200] w fun e w' => e = .returned (.tuple #[.agg #[.int .i64 450, .int .i64 99], .agg #[.int .i64 450, .int .i64 1], .int .i64 0]) ∧ Below w.heap.size w w') := Lib.hid (fun w => by
    have h := squeeze_ok 900 100 5000 200 (by omega) (by omega) (by omega) (by omega) w
    rw [rk_fixed] at h
    exact h)
  have c2 := Lib.hid (boil_any 980 20 6600)
  rw [show boilW 980 20 6600 = 970 from by decide, show boilE 980 20 6600 = 0 from by decide] at c2
  go_enter Try.func15, Try.ntmps15
  go_wp2_with fail
  refine (c1.out _).mono ?_
  rintro e w1 ⟨rfl, hb⟩
  go_wp2_with fail
  refine (c2.out _).mono ?_
  rintro e w2 ⟨rfl, hb2⟩
  have x0 := cell_next hb2 (b := w1.heap.size) (o := 0) (by simp <;> omega) (v := some (.int .i64 450)) (by simp [go_sem])
  have x1 := cell_next hb2 (b := w1.heap.size) (o := 1) (by simp <;> omega) (v := some (.int .i64 99)) (by simp [go_sem])
  have y0 := cell_next hb2 (b := w1.heap.size + 1) (o := 0) (by simp) (v := some (.int .i64 450)) (by simp [go_sem])
  have y1 := cell_next hb2 (b := w1.heap.size + 1) (o := 1) (by simp) (v := some (.int .i64 1)) (by simp [go_sem])
  have hB := hb.trans ((below2 hb2).mono hb.size)
  clear hb hb2
  go_wp2_with fail
  go_ret
  exact ⟨by simp, hB⟩
end Go.Proofs.Ytfdaiififoomoaa

