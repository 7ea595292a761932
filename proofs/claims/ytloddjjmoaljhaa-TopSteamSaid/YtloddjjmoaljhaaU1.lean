/- Plain arithmetic: what rounds through a membrane keep. -/
import Derived.Test.YtloddjjmoaljhaaProg
namespace Go.Proofs.Ytloddjjmoaljhaa
set_option linter.unusedVariables false

/-- the water that a round takes off -/
def offW (w t : Nat) : Nat := w * t / 10000
/-- the sugar that goes with it -/
def offS (w s t p : Nat) : Nat := s * p * offW w t / (w * 10000)
/-- what a round keeps -/
def stp (t p : Nat) (x : Nat × Nat) : Nat × Nat := (x.1 - offW x.1 t, x.2 - offS x.1 x.2 t p)
/-- what k rounds keep -/
def rk (t p : Nat) (x : Nat × Nat) : Nat → Nat × Nat
  | 0 => x
  | k + 1 => stp t p (rk t p x k)

theorem offW_le (w t : Nat) (ht : t ≤ 10000) : offW w t ≤ w := by
  unfold offW
  have h : w * t ≤ w * 10000 := Nat.mul_le_mul_left _ ht
  calc w * t / 10000 ≤ w * 10000 / 10000 := Nat.div_le_div_right h
    _ = w := Nat.mul_div_cancel _ (by omega)
theorem offS_mul (w s t p : Nat) (hp : p ≤ 10000) : offS w s t p * w ≤ s * offW w t := by
  unfold offS
  generalize offW w t = o
  have h1 : s * p * o / (w * 10000) * (w * 10000) ≤ s * p * o := Nat.div_mul_le_self _ _
  have h2 : s * p * o ≤ s * 10000 * o := Nat.mul_le_mul_right _ (Nat.mul_le_mul_left _ hp)
  generalize s * p * o / (w * 10000) = q at *
  have h3 : (q * w) * 10000 ≤ (s * o) * 10000 := by
    calc (q * w) * 10000 = q * (w * 10000) := by rw [Nat.mul_assoc]
      _ ≤ s * 10000 * o := Nat.le_trans h1 h2
      _ = (s * o) * 10000 := by rw [Nat.mul_assoc, Nat.mul_comm 10000 o, ← Nat.mul_assoc]
  exact Nat.le_of_mul_le_mul_right h3 (by omega)
theorem offS_le (w s t p : Nat) (ht : t ≤ 10000) (hp : p ≤ 10000) : offS w s t p ≤ s := by
  rcases Nat.eq_zero_or_pos w with rfl | hw
  · simp [offS]
  · have h1 := offS_mul w s t p hp
    have h2 : s * offW w t ≤ s * w := Nat.mul_le_mul_left _ (offW_le w t ht)
    exact Nat.le_of_mul_le_mul_right (Nat.le_trans h1 h2) hw
theorem stp_conc (t p : Nat) (x : Nat × Nat) (ht : t ≤ 10000) (hp : p ≤ 10000) : x.2 * (stp t p x).1 ≤ (stp t p x).2 * x.1 := by
  obtain ⟨w, s⟩ := x
  show s * (w - offW w t) ≤ (s - offS w s t p) * w
  have h1 := offS_mul w s t p hp
  have h2 := offS_le w s t p ht hp
  have h3 := offW_le w t ht
  generalize offS w s t p = u at *
  generalize offW w t = o at *
  obtain ⟨a, rfl⟩ : ∃ a, w = a + o := ⟨w - o, by omega⟩
  obtain ⟨b, rfl⟩ : ∃ b, s = b + u := ⟨s - u, by omega⟩
  rw [show a + o - o = a from by omega, show b + u - u = b from by omega]
  simp only [Nat.add_mul, Nat.mul_add] at *
  omega
theorem stp_le (t p : Nat) (x : Nat × Nat) : (stp t p x).1 ≤ x.1 ∧ (stp t p x).2 ≤ x.2 := ⟨Nat.sub_le _ _, Nat.sub_le _ _⟩
theorem rk_le (t p : Nat) (x : Nat × Nat) : ∀ k, (rk t p x k).1 ≤ x.1 ∧ (rk t p x k).2 ≤ x.2
  | 0 => ⟨Nat.le_refl _, Nat.le_refl _⟩
  | k + 1 => by
    have h := rk_le t p x k
    have h' := stp_le t p (rk t p x k)
    exact ⟨Nat.le_trans h'.1 h.1, Nat.le_trans h'.2 h.2⟩
theorem rk_conc (t p : Nat) (x : Nat × Nat) (ht : t ≤ 10000) (hp : p ≤ 10000) : ∀ k, x.2 * (rk t p x k).1 ≤ (rk t p x k).2 * x.1
  | 0 => Nat.le_refl _
  | k + 1 => by
    have h := rk_conc t p x ht hp k
    have h1 := stp_conc t p (rk t p x k) ht hp
    have h2 := (stp_le t p (rk t p x k)).1
    show x.2 * (stp t p (rk t p x k)).1 ≤ (stp t p (rk t p x k)).2 * x.1
    generalize (stp t p (rk t p x k)).1 = w2 at *
    generalize (stp t p (rk t p x k)).2 = s2 at *
    generalize (rk t p x k).1 = w1 at *
    generalize (rk t p x k).2 = s1 at *
    generalize x.1 = w0 at *
    generalize x.2 = s0 at *
    rcases Nat.eq_zero_or_pos w1 with rfl | hw
    · obtain rfl : w2 = 0 := by omega
      simp
    · have a1 : s0 * w1 * w2 ≤ s1 * w0 * w2 := Nat.mul_le_mul_right _ h
      have a2 : s1 * w2 * w0 ≤ s2 * w1 * w0 := Nat.mul_le_mul_right _ h1
      refine Nat.le_of_mul_le_mul_right (c := w1) ?_ hw
      calc s0 * w2 * w1 = s0 * w1 * w2 := Nat.mul_right_comm _ _ _
        _ ≤ s1 * w0 * w2 := a1
        _ = s1 * w2 * w0 := Nat.mul_right_comm _ _ _
        _ ≤ s2 * w1 * w0 := a2
        _ = s2 * w0 * w1 := Nat.mul_right_comm _ _ _
theorem rk_pass0 (t : Nat) (x : Nat × Nat) : ∀ k, (rk t 0 x k).2 = x.2
  | 0 => rfl
  | k + 1 => by
    show (rk t 0 x k).2 - offS _ _ t 0 = x.2
    rw [rk_pass0 t x k]
    simp [offS]
theorem rk_water (t p : Nat) (x : Nat × Nat) (ht : t < 10000) (hx : 0 < x.1) : ∀ k, 0 < (rk t p x k).1
  | 0 => hx
  | k + 1 => by
    have h := rk_water t p x ht hx k
    show 0 < (rk t p x k).1 - offW (rk t p x k).1 t
    generalize (rk t p x k).1 = w at *
    have : offW w t < w := by
      unfold offW
      refine Nat.div_lt_of_lt_mul ?_
      rw [Nat.mul_comm]
      exact Nat.mul_lt_mul_of_pos_right ht h
    omega
/-- no sap is less concentrated behind rounds: rounded down -/
theorem floor_mono (T w0 s0 w s : Nat) (h : s0 * w ≤ s * w0) (hs : 0 < s0) (hm : 0 < w + s) : s0 * T / (w0 + s0) ≤ s * T / (w + s) := by
  have hd : s0 * T / (w0 + s0) * (w0 + s0) ≤ s0 * T := Nat.div_mul_le_self _ _
  have hc : s0 * T / (w0 + s0) ≤ T := Nat.div_le_of_le_mul (by rw [Nat.add_mul]; omega)
  obtain ⟨a, ha⟩ : ∃ a, s0 * T / (w0 + s0) = a := ⟨_, rfl⟩
  rw [ha] at hd hc ⊢
  rw [Nat.le_div_iff_mul_le hm]
  obtain ⟨c, rfl⟩ : ∃ c, T = a + c := ⟨T - a, by omega⟩
  have h1 : a * w0 ≤ s0 * c := by rw [Nat.mul_add, Nat.mul_add, Nat.mul_comm s0 a] at hd; omega
  have h2 : a * w ≤ s * c := by
    refine Nat.le_of_mul_le_mul_right (c := s0) ?_ hs
    calc a * w * s0 = a * (s0 * w) := by rw [Nat.mul_assoc, Nat.mul_comm w s0]
      _ ≤ a * (s * w0) := Nat.mul_le_mul_left _ h
      _ = s * (a * w0) := by rw [Nat.mul_left_comm]
      _ ≤ s * (s0 * c) := Nat.mul_le_mul_left _ h1
      _ = s * c * s0 := by rw [Nat.mul_comm s0 c, Nat.mul_assoc]
  rw [Nat.mul_add, Nat.mul_add, Nat.mul_comm s a]
  omega
/-- and rounded up: c is at least the concentration of what is kept -/
theorem ceil_mono (w0 s0 w s c : Nat) (h : s0 * w ≤ s * w0) (hm : 0 < w + s) (hs : 0 < s) (hc : s * 10000 ≤ c * (w + s)) : s0 * 10000 ≤ c * (w0 + s0) := by
  rcases Nat.lt_or_ge 10000 c with h1 | h1
  · rw [Nat.mul_add, Nat.mul_comm s0]
    have := Nat.mul_le_mul_right s0 (show 10000 ≤ c from by omega)
    rw [Nat.mul_comm 10000 s0] at this
    omega
  · generalize 10000 = T at *
    obtain ⟨d, hd⟩ : ∃ d, T = c + d := ⟨T - c, by omega⟩
    rw [hd] at hc ⊢
    rw [Nat.mul_add, Nat.mul_add, Nat.mul_comm s c] at hc
    rw [Nat.mul_add, Nat.mul_add, Nat.mul_comm s0 c]
    have h2 : s * d ≤ c * w := by omega
    have h3 : s0 * d ≤ c * w0 := by
      rcases Nat.eq_zero_or_pos w with rfl | hw
      · have : s * d = 0 := by omega
        rcases Nat.mul_eq_zero.1 this with h0 | rfl
        · omega
        · simp
      · refine Nat.le_of_mul_le_mul_right (c := w) ?_ hw
        calc s0 * d * w = d * (s0 * w) := by rw [Nat.mul_comm s0 d, Nat.mul_assoc]
          _ ≤ d * (s * w0) := Nat.mul_le_mul_left _ h
          _ = (s * d) * w0 := by rw [← Nat.mul_assoc, Nat.mul_comm d s]
          _ ≤ (c * w) * w0 := Nat.mul_le_mul_right _ h2
          _ = c * w0 * w := Nat.mul_right_comm _ _ _
    omega
/-- less water must go off behind rounds -/
theorem boil_less (w0 s0 w s b : Nat) (h : s0 * w ≤ s * w0) (hw : w ≤ w0) (hsl : s ≤ s0) (hs : 0 < s0) (hb : 0 < b) (hb2 : b ≤ 10000) (hc : s0 * 10000 ≤ b * (w0 + s0)) :
    w + s + s0 * 10000 / b ≤ w0 + s0 + s * 10000 / b := by
  obtain ⟨gw, rfl⟩ : ∃ g, w0 = w + g := ⟨w0 - w, by omega⟩
  obtain ⟨gs, rfl⟩ : ∃ g, s0 = s + g := ⟨s0 - s, by omega⟩
  generalize 10000 = T at *
  obtain ⟨d, hd⟩ : ∃ d, T = b + d := ⟨T - b, by omega⟩
  have h1 : (s + gs) * d ≤ b * (w + gw) := by
    rw [hd, Nat.mul_add, Nat.mul_add b, Nat.mul_comm (s + gs) b] at hc; omega
  have h2 : gs * (w + gw) ≤ (s + gs) * gw := by
    simp only [Nat.add_mul, Nat.mul_add] at h ⊢; omega
  have h3 : gs * d ≤ gw * b := by
    refine Nat.le_of_mul_le_mul_right (c := s + gs) ?_ hs
    calc gs * d * (s + gs) = gs * ((s + gs) * d) := by rw [Nat.mul_assoc, Nat.mul_comm d]
      _ ≤ gs * (b * (w + gw)) := Nat.mul_le_mul_left _ h1
      _ = b * (gs * (w + gw)) := by rw [Nat.mul_left_comm]
      _ ≤ b * ((s + gs) * gw) := Nat.mul_le_mul_left _ h2
      _ = gw * b * (s + gs) := by rw [Nat.mul_comm (s + gs) gw, ← Nat.mul_assoc, Nat.mul_comm b gw]
  have h4 : (s + gs) * T ≤ s * T + (gw + gs) * b := by
    rw [Nat.add_mul s gs, Nat.add_mul gw gs]
    have : gs * T = gs * b + gs * d := by rw [← Nat.mul_add, ← hd]
    omega
  have h5 : (s + gs) * T / b ≤ s * T / b + (gw + gs) := by
    refine Nat.le_trans (Nat.div_le_div_right h4) ?_
    rw [Nat.add_mul_div_right _ _ hb]
    exact Nat.le_refl _
  omega
/-- the product of two words that is divided fits -/
theorem off_fits (w s t p : Nat) (hw : 0 < w) (hw2 : w ≤ 1000000000000) (hs : s ≤ 1000000000000) (ht : t ≤ 10000) (hp : p ≤ 10000) :
    s * p ≤ 10000000000000000 ∧ w * 10000 ≤ 10000000000000000 ∧ w * t ≤ 10000000000000000 ∧ s * p * offW w t / 18446744073709551616 < w * 10000 := by
  have h1 : s * p ≤ 1000000000000 * 10000 := Nat.mul_le_mul hs hp
  have h2 : w * t ≤ 1000000000000 * 10000 := Nat.mul_le_mul hw2 ht
  refine ⟨by omega, by omega, by omega, ?_⟩
  have h3 := offW_le w t ht
  have h4 : s * p * offW w t ≤ 10000000000000000 * w := Nat.mul_le_mul (by omega) h3
  generalize s * p * offW w t = m at *
  omega
end Go.Proofs.Ytloddjjmoaljhaa

