/- Contracts: U1, U31, C1, C2, C3, C4, C5, joined. -/
import Derived.Test.YtfdaiififoomoaaProg
import Derived.WalkKit
import Derived.WalkSpells
import Derived.WalkLawsBesides
import Derived.BigQuiet
import Derived.Deep.QuietTactic
import Derived.Lib.Mul64
import Derived.Laws.Bits64b
import Derived.Lib.Hide
import Derived.Deep.Draws
import Derived.Deep.RegionHeld3
import Derived.Deep.DrawnRows
import Derived.Laws.CopyOwn
import Derived.Shelf.Abstract
namespace Go.Proofs.Ytfdaiififoomoaa
set_option linter.unusedVariables false

/-- the water that a round takes off -/
def offW (w t : Nat) : Nat := w * t / 10000
/-- the sugar that goes with it -/
def offS (w s t p : Nat) : Nat := s * p * offW w t / (w * 10000)
/-- what a round keeps -/
def stp (t p : Nat) (x : Nat × Nat) : Nat × Nat := (x.1 - offW x.1 t, x.2 - offS x.1 x.2 t p)
/-- what k rounds keep -/
def rk (t p : Nat) (x : Nat × Nat) : Nat → Nat × Nat
  | 0 => x
  | k + 1 => stp t p (rk t p x k)

theorem offW_le (w t : Nat) (ht : t ≤ 10000) : offW w t ≤ w := by
  unfold offW
  have h : w * t ≤ w * 10000 := Nat.mul_le_mul_left _ ht
  calc w * t / 10000 ≤ w * 10000 / 10000 := Nat.div_le_div_right h
    _ = w := Nat.mul_div_cancel _ (by omega)
theorem offS_mul (w s t p : Nat) (hp : p ≤ 10000) : offS w s t p * w ≤ s * offW w t := by
  unfold offS
  generalize offW w t = o
  have h1 : s * p * o / (w * 10000) * (w * 10000) ≤ s * p * o := Nat.div_mul_le_self _ _
  have h2 : s * p * o ≤ s * 10000 * o := Nat.mul_le_mul_right _ (Nat.mul_le_mul_left _ hp)
  generalize s * p * o / (w * 10000) = q at *
  have h3 : (q * w) * 10000 ≤ (s * o) * 10000 := by
    calc (q * w) * 10000 = q * (w * 10000) := by rw [Nat.mul_assoc]
      _ ≤ s * 10000 * o := Nat.le_trans h1 h2
      _ = (s * o) * 10000 := by rw [Nat.mul_assoc, Nat.mul_comm 10000 o, ← Nat.mul_assoc]
  exact Nat.le_of_mul_le_mul_right h3 (by omega)
theorem offS_le (w s t p : Nat) (ht : t ≤ 10000) (hp : p ≤ 10000) : offS w s t p ≤ s := by
  rcases Nat.eq_zero_or_pos w with rfl | hw
  · simp [offS]
  · have h1 := offS_mul w s t p hp
    have h2 : s * offW w t ≤ s * w := Nat.mul_le_mul_left _ (offW_le w t ht)
    exact Nat.le_of_mul_le_mul_right (Nat.le_trans h1 h2) hw
theorem stp_conc (t p : Nat) (x : Nat × Nat) (ht : t ≤ 10000) (hp : p ≤ 10000) : x.2 * (stp t p x).1 ≤ (stp t p x).2 * x.1 := by
  obtain ⟨w, s⟩ := x
  show s * (w - offW w t) ≤ (s - offS w s t p) * w
  have h1 := offS_mul w s t p hp
  have h2 := offS_le w s t p ht hp
  have h3 := offW_le w t ht
  generalize offS w s t p = u at *
  generalize offW w t = o at *
  obtain ⟨a, rfl⟩ : ∃ a, w = a + o := ⟨w - o, by omega⟩
  obtain ⟨b, rfl⟩ : ∃ b, s = b + u := ⟨s - u, by omega⟩
  rw [show a + o - o = a from by omega, show b + u - u = b from by omega]
  simp only [Nat.add_mul, Nat.mul_add] at *
  omega
theorem stp_le (t p : Nat) (x : Nat × Nat) : (stp t p x).1 ≤ x.1 ∧ (stp t p x).2 ≤ x.2 := ⟨Nat.sub_le _ _, Nat.sub_le _ _⟩
theorem rk_le (t p : Nat) (x : Nat × Nat) : ∀ k, (rk t p x k).1 ≤ x.1 ∧ (rk t p x k).2 ≤ x.2
  | 0 => ⟨Nat.le_refl _, Nat.le_refl _⟩
  | k + 1 => by
    have h := rk_le t p x k
    have h' := stp_le t p (rk t p x k)
    exact ⟨Nat.le_trans h'.1 h.1, Nat.le_trans h'.2 h.2⟩
theorem rk_conc (t p : Nat) (x : Nat × Nat) (ht : t ≤ 10000) (hp : p ≤ 10000) : ∀ k, x.2 * (rk t p x k).1 ≤ (rk t p x k).2 * x.1
  | 0 => Nat.le_refl _
  | k + 1 => by
    have h := rk_conc t p x ht hp k
    have h1 := stp_conc t p (rk t p x k) ht hp
    have h2 := (stp_le t p (rk t p x k)).1
    show x.2 * (stp t p (rk t p x k)).1 ≤ (stp t p (rk t p x k)).2 * x.1
    generalize (stp t p (rk t p x k)).1 = w2 at *
    generalize (stp t p (rk t p x k)).2 = s2 at *
    generalize (rk t p x k).1 = w1 at *
    generalize (rk t p x k).2 = s1 at *
    generalize x.1 = w0 at *
    generalize x.2 = s0 at *
    rcases Nat.eq_zero_or_pos w1 with rfl | hw
    · obtain rfl : w2 = 0 := by omega
      simp
    · have a1 : s0 * w1 * w2 ≤ s1 * w0 * w2 := Nat.mul_le_mul_right _ h
      have a2 : s1 * w2 * w0 ≤ s2 * w1 * w0 := Nat.mul_le_mul_right _ h1
      refine Nat.le_of_mul_le_mul_right (c := w1) ?_ hw
      calc s0 * w2 * w1 = s0 * w1 * w2 := Nat.mul_right_comm _ _ _
        _ ≤ s1 * w0 * w2 := a1
        _ = s1 * w2 * w0 := Nat.mul_right_comm _ _ _
        _ ≤ s2 * w1 * w0 := a2
        _ = s2 * w0 * w1 := Nat.mul_right_comm _ _ _
theorem rk_pass0 (t : Nat) (x : Nat × Nat) : ∀ k, (rk t 0 x k).2 = x.2
  | 0 => rfl
  | k + 1 => by
    show (rk t 0 x k).2 - offS _ _ t 0 = x.2
    rw [rk_pass0 t x k]
    simp [offS]
theorem rk_water (t p : Nat) (x : Nat × Nat) (ht : t < 10000) (hx : 0 < x.1) : ∀ k, 0 < (rk t p x k).1
  | 0 => hx
  | k + 1 => by
    have h := rk_water t p x ht hx k
    show 0 < (rk t p x k).1 - offW (rk t p x k).1 t
    generalize (rk t p x k).1 = w at *
    have : offW w t < w := by
      unfold offW
      refine Nat.div_lt_of_lt_mul ?_
      rw [Nat.mul_comm]
      exact Nat.mul_lt_mul_of_pos_right ht h
    omega
/-- no sap is less concentrated behind rounds: rounded down -/
theorem floor_mono (T w0 s0 w s : Nat) (h : s0 * w ≤ s * w0) (hs : 0 < s0) (hm : 0 < w + s) : s0 * T / (w0 + s0) ≤ s * T / (w + s) := by
  have hd : s0 * T / (w0 + s0) * (w0 + s0) ≤ s0 * T := Nat.div_mul_le_self _ _
  have hc : s0 * T / (w0 + s0) ≤ T := Nat.div_le_of_le_mul (by rw [Nat.add_mul]; omega)
  obtain ⟨a, ha⟩ : ∃ a, s0 * T / (w0 + s0) = a := ⟨_, rfl⟩
  rw [ha] at hd hc ⊢
  rw [Nat.le_div_iff_mul_le hm]
  obtain ⟨c, rfl⟩ : ∃ c, T = a + c := ⟨T - a, by omega⟩
  have h1 : a * w0 ≤ s0 * c := by rw [Nat.mul_add, Nat.mul_add, Nat.mul_comm s0 a] at hd; omega
  have h2 : a * w ≤ s * c := by
    refine Nat.le_of_mul_le_mul_right (c := s0) ?_ hs
    calc a * w * s0 = a * (s0 * w) := by rw [Nat.mul_assoc, Nat.mul_comm w s0]
      _ ≤ a * (s * w0) := Nat.mul_le_mul_left _ h
      _ = s * (a * w0) := by rw [Nat.mul_left_comm]
      _ ≤ s * (s0 * c) := Nat.mul_le_mul_left _ h1
      _ = s * c * s0 := by rw [Nat.mul_comm s0 c, Nat.mul_assoc]
  rw [Nat.mul_add, Nat.mul_add, Nat.mul_comm s a]
  omega
/-- and rounded up: c is at least the concentration of what is kept -/
theorem ceil_mono (w0 s0 w s c : Nat) (h : s0 * w ≤ s * w0) (hm : 0 < w + s) (hs : 0 < s) (hc : s * 10000 ≤ c * (w + s)) : s0 * 10000 ≤ c * (w0 + s0) := by
  rcases Nat.lt_or_ge 10000 c with h1 | h1
  · rw [Nat.mul_add, Nat.mul_comm s0]
    have := Nat.mul_le_mul_right s0 (show 10000 ≤ c from by omega)
    rw [Nat.mul_comm 10000 s0] at this
    omega
  · generalize 10000 = T at *
    obtain ⟨d, hd⟩ : ∃ d, T = c + d := ⟨T - c, by omega⟩
    rw [hd] at hc ⊢
    rw [Nat.mul_add, Nat.mul_add, Nat.mul_comm s c] at hc
    rw [Nat.mul_add, Nat.mul_add, Nat.mul_comm s0 c]
    have h2 : s * d ≤ c * w := by omega
    have h3 : s0 * d ≤ c * w0 := by
      rcases Nat.eq_zero_or_pos w with rfl | hw
      · have : s * d = 0 := by omega
        rcases Nat.mul_eq_zero.1 this with h0 | rfl
        · omega
        · simp
      · refine Nat.le_of_mul_le_mul_right (c := w) ?_ hw
        calc s0 * d * w = d * (s0 * w) := by rw [Nat.mul_comm s0 d, Nat.mul_assoc]
          _ ≤ d * (s * w0) := Nat.mul_le_mul_left _ h
          _ = (s * d) * w0 := by rw [← Nat.mul_assoc, Nat.mul_comm d s]
          _ ≤ (c * w) * w0 := Nat.mul_le_mul_right _ h2
          _ = c * w0 * w := Nat.mul_right_comm _ _ _
    omega
/-- less water must go off behind rounds -/
theorem boil_less (w0 s0 w s b : Nat) (h : s0 * w ≤ s * w0) (hw : w ≤ w0) (hsl : s ≤ s0) (hs : 0 < s0) (hb : 0 < b) (hb2 : b ≤ 10000) (hc : s0 * 10000 ≤ b * (w0 + s0)) :
    w + s + s0 * 10000 / b ≤ w0 + s0 + s * 10000 / b := by
  obtain ⟨gw, rfl⟩ : ∃ g, w0 = w + g := ⟨w0 - w, by omega⟩
  obtain ⟨gs, rfl⟩ : ∃ g, s0 = s + g := ⟨s0 - s, by omega⟩
  generalize 10000 = T at *
  obtain ⟨d, hd⟩ : ∃ d, T = b + d := ⟨T - b, by omega⟩
  have h1 : (s + gs) * d ≤ b * (w + gw) := by
    rw [hd, Nat.mul_add, Nat.mul_add b, Nat.mul_comm (s + gs) b] at hc; omega
  have h2 : gs * (w + gw) ≤ (s + gs) * gw := by
    simp only [Nat.add_mul, Nat.mul_add] at h ⊢; omega
  have h3 : gs * d ≤ gw * b := by
    refine Nat.le_of_mul_le_mul_right (c := s + gs) ?_ hs
    calc gs * d * (s + gs) = gs * ((s + gs) * d) := by rw [Nat.mul_assoc, Nat.mul_comm d]
      _ ≤ gs * (b * (w + gw)) := Nat.mul_le_mul_left _ h1
      _ = b * (gs * (w + gw)) := by rw [Nat.mul_left_comm]
      _ ≤ b * ((s + gs) * gw) := Nat.mul_le_mul_left _ h2
      _ = gw * b * (s + gs) := by rw [Nat.mul_comm (s + gs) gw, ← Nat.mul_assoc, Nat.mul_comm b gw]
  have h4 : (s + gs) * T ≤ s * T + (gw + gs) * b := by
    rw [Nat.add_mul s gs, Nat.add_mul gw gs]
    have : gs * T = gs * b + gs * d := by rw [← Nat.mul_add, ← hd]
    omega
  have h5 : (s + gs) * T / b ≤ s * T / b + (gw + gs) := by
    refine Nat.le_trans (Nat.div_le_div_right h4) ?_
    rw [Nat.add_mul_div_right _ _ hb]
    exact Nat.le_refl _
  omega
/-- the product of two words that is divided fits -/
theorem off_fits (w s t p : Nat) (hw : 0 < w) (hw2 : w ≤ 1000000000000) (hs : s ≤ 1000000000000) (ht : t ≤ 10000) (hp : p ≤ 10000) :
    s * p ≤ 10000000000000000 ∧ w * 10000 ≤ 10000000000000000 ∧ w * t ≤ 10000000000000000 ∧ s * p * offW w t / 18446744073709551616 < w * 10000 := by
  have h1 : s * p ≤ 1000000000000 * 10000 := Nat.mul_le_mul hs hp
  have h2 : w * t ≤ 1000000000000 * 10000 := Nat.mul_le_mul hw2 ht
  refine ⟨by omega, by omega, by omega, ?_⟩
  have h3 := offW_le w t ht
  have h4 : s * p * offW w t ≤ 10000000000000000 * w := Nat.mul_le_mul (by omega) h3
  generalize s * p * offW w t = m at *
  omega

set_option linter.unusedVariables false

/-- a concentration is reached -/
def dnB (b : Nat) (x : Nat × Nat) : Bool := decide (0 < x.2) && decide (b * (x.1 + x.2) ≤ x.2 * 10000)
/-- the first number below N for which f holds, or -1 -/
def fstI (f : Nat → Bool) : Nat → Int
  | 0 => -1
  | n + 1 => if 0 ≤ fstI f n then fstI f n else if f n = true then (n : Int) else -1
theorem fstI_spec (f : Nat → Bool) : ∀ N, (fstI f N = -1 ∧ ∀ j, j < N → f j = false) ∨ ∃ k, k < N ∧ fstI f N = (k : Int) ∧ f k = true ∧ ∀ j, j < k → f j = false
  | 0 => .inl ⟨rfl, fun j h => absurd h (Nat.not_lt_zero j)⟩
  | n + 1 => by
    rcases fstI_spec f n with ⟨h1, h2⟩ | ⟨k, hk, h1, h2, h3⟩
    · by_cases hf : f n = true
      · exact .inr ⟨n, by omega, by simp [fstI, h1, hf], hf, h2⟩
      · refine .inl ⟨by simp [fstI, h1, hf], fun j hj => ?_⟩
        rcases Nat.lt_or_ge j n with h | h
        · exact h2 j h
        · obtain rfl : j = n := by omega
          simpa using hf
    · exact .inr ⟨k, by omega, by simp [fstI, h1], h2, h3⟩
theorem fstI_at {f : Nat → Bool} {N k : Nat} (hk : k < N) (h : f k = true) (hj : ∀ j, j < k → f j = false) : fstI f N = (k : Int) := by
  rcases fstI_spec f N with ⟨_, h2⟩ | ⟨m, hm, h1, h2, h3⟩
  · rw [h2 k hk] at h; cases h
  · rcases Nat.lt_trichotomy m k with c | c | c
    · rw [hj m c] at h2; cases h2
    · rw [h1, c]
    · rw [h3 k c] at h; cases h
theorem fstI_no {f : Nat → Bool} {N : Nat} (hj : ∀ j, j < N → f j = false) : fstI f N = -1 := by
  rcases fstI_spec f N with ⟨h1, _⟩ | ⟨m, hm, h1, h2, h3⟩
  · exact h1
  · rw [hj m hm] at h2; cases h2
theorem fstI_rng (f : Nat → Bool) (N : Nat) : -1 ≤ fstI f N ∧ fstI f N < N := by
  rcases fstI_spec f N with ⟨h1, _⟩ | ⟨m, hm, h1, h2, h3⟩ <;> omega
/-- where g holds wherever f does, it holds no later -/
theorem fstI_le {f g : Nat → Bool} {N : Nat} (h : ∀ k, f k = true → g k = true) (hf : fstI f N ≠ -1) : fstI g N ≠ -1 ∧ 0 ≤ fstI g N ∧ fstI g N ≤ fstI f N := by
  rcases fstI_spec f N with ⟨h1, _⟩ | ⟨m, hm, h1, h2, h3⟩
  · exact absurd h1 hf
  · rcases fstI_spec g N with ⟨g1, g2⟩ | ⟨n, hn, g1, g2, g3⟩
    · have := g2 m hm
      rw [h m h2] at this; cases this
    · rcases Nat.lt_or_ge m n with c | c
      · have := g3 m c
        rw [h m h2] at this; cases this
      · omega

/-- rounds of one kind -/
def lsI (b t p : Nat) (x : Nat × Nat) (most : Nat) : Int := fstI (fun k => dnB b (rk t p x k)) (most + 1)

theorem offS_sugar (w s d t p : Nat) (hw : 0 < w) (ht : t ≤ 10000) (hp : p ≤ 10000) : offS w (s + d) t p ≤ offS w s t p + d := by
  unfold offS
  have ho := offW_le w t ht
  generalize offW w t = o at *
  have h1 : d * p * o ≤ d * (w * 10000) := by
    calc d * p * o ≤ d * 10000 * w := Nat.mul_le_mul (Nat.mul_le_mul_left _ hp) ho
      _ = d * (w * 10000) := by rw [Nat.mul_assoc, Nat.mul_comm 10000 w]
  have hD : 0 < w * 10000 := by omega
  have h2 : (s + d) * p * o ≤ s * p * o + d * (w * 10000) := by
    rw [Nat.add_mul, Nat.add_mul]; omega
  generalize w * 10000 = D at *
  refine Nat.le_trans (Nat.div_le_div_right h2) ?_
  rw [Nat.add_mul_div_right _ _ hD]
  exact Nat.le_refl _
theorem offS_pass (w s t p p' : Nat) (hp : p ≤ p') : offS w s t p ≤ offS w s t p' := by
  unfold offS
  exact Nat.div_le_div_right (Nat.mul_le_mul_right _ (Nat.mul_le_mul_left _ hp))
/-- the more passes, the less sugar is kept, beside the same water -/
theorem rk_pass (t p p' : Nat) (x : Nat × Nat) (ht : t ≤ 10000) (hp : p ≤ p') (hp' : p' ≤ 10000) : ∀ k, (rk t p' x k).1 = (rk t p x k).1 ∧ (rk t p' x k).2 ≤ (rk t p x k).2
  | 0 => ⟨rfl, Nat.le_refl _⟩
  | k + 1 => by
    obtain ⟨h1, h2⟩ := rk_pass t p p' x ht hp hp' k
    show (rk t p' x k).1 - offW (rk t p' x k).1 t = (rk t p x k).1 - offW (rk t p x k).1 t ∧ (rk t p' x k).2 - offS (rk t p' x k).1 (rk t p' x k).2 t p' ≤ (rk t p x k).2 - offS (rk t p x k).1 (rk t p x k).2 t p
    rw [h1]
    refine ⟨rfl, ?_⟩
    generalize (rk t p x k).1 = w at *
    generalize (rk t p x k).2 = s at *
    generalize (rk t p' x k).2 = s' at *
    rcases Nat.eq_zero_or_pos w with rfl | hw
    · simp [offS]; exact h2
    · obtain ⟨d, rfl⟩ : ∃ d, s = s' + d := ⟨s - s', by omega⟩
      have a1 := offS_sugar w s' d t p hw ht (by omega)
      have a2 := offS_pass w s' t p p' hp
      have a3 := offS_le w s' t p' ht hp'
      omega
theorem dnB_mono (b w s s' : Nat) (hb : b ≤ 10000) (h : s' ≤ s) (hd : dnB b (w, s') = true) : dnB b (w, s) = true := by
  simp only [dnB, Bool.and_eq_true, decide_eq_true_eq] at hd ⊢
  obtain ⟨h1, h2⟩ := hd
  refine ⟨by omega, ?_⟩
  obtain ⟨d, rfl⟩ : ∃ d, s = s' + d := ⟨s - s', by omega⟩
  have : b * d ≤ 10000 * d := Nat.mul_le_mul_right _ hb
  rw [← Nat.add_assoc, Nat.mul_add, Nat.add_mul]
  omega
theorem dn_pass (b t p p' : Nat) (x : Nat × Nat) (hb : b ≤ 10000) (ht : t ≤ 10000) (hp : p ≤ p') (hp' : p' ≤ 10000) (k : Nat) (h : dnB b (rk t p' x k) = true) : dnB b (rk t p x k) = true := by
  obtain ⟨h1, h2⟩ := rk_pass t p p' x ht hp hp' k
  have e : rk t p' x k = ((rk t p x k).1, (rk t p' x k).2) := by rw [← h1]
  rw [e] at h
  exact dnB_mono b _ _ _ hb h2 h
/-- and the more rounds are needed -/
theorem lsI_pass (b t p p' : Nat) (x : Nat × Nat) (most : Nat) (hb : b ≤ 10000) (ht : t ≤ 10000) (hp : p ≤ p') (hp' : p' ≤ 10000) (h : lsI b t p' x most ≠ -1) :
    lsI b t p x most ≠ -1 ∧ 0 ≤ lsI b t p x most ∧ lsI b t p x most ≤ lsI b t p' x most :=
  fstI_le (fun k => dn_pass b t p p' x hb ht hp hp' k) h
theorem rk_add (t p : Nat) (x : Nat × Nat) (a : Nat) : ∀ b, rk t p x (a + b) = rk t p (rk t p x a) b
  | 0 => rfl
  | b + 1 => by
    show stp t p (rk t p x (a + b)) = stp t p (rk t p (rk t p x a) b)
    rw [rk_add t p x a b]

open Go.RowKit Go.Lib
set_option linter.unusedVariables false
set_option linter.unusedSimpArgs false

/-- whether a range is valid -/
def vrB (lo hi : Int) : Bool := decide (-1000000000000000 ≤ lo) && decide (lo ≤ hi) && decide (hi ≤ 1000000000000000)
/-- what fits -/
def fitL (lo hi : Int) : Int := if lo < -1000000000000000 ∨ 1000000000000000 < hi then 0 else lo
def fitH (lo hi : Int) : Int := if lo < -1000000000000000 ∨ 1000000000000000 < hi then 0 else hi
def fitE (lo hi : Int) : Int := if lo < -1000000000000000 ∨ 1000000000000000 < hi then 10 else 0

theorem fit_no (lo hi : Int) (h : lo < -1000000000000000 ∨ 1000000000000000 < hi) : fitL lo hi = 0 ∧ fitH lo hi = 0 ∧ fitE lo hi = 10 := by simp [fitL, fitH, fitE, h]
theorem fit_yes (lo hi : Int) (h1 : ¬ lo < -1000000000000000) (h2 : ¬ 1000000000000000 < hi) : fitL lo hi = lo ∧ fitH lo hi = hi ∧ fitE lo hi = 0 := by simp [fitL, fitH, fitE, h1, h2]
theorem below_drewN {B : Nat} {a w : World} (h : Below B a w) (n : Nat) : Below B a (w.drewN n) := ⟨h.os, h.tape, h.output, h.size, h.block⟩
theorem bcell {W w1 : World} (hb : Below W.heap.size W w1) : (∀ b o, b < W.heap.size → w1.cell? ⟨b, o, none⟩ = W.cell? ⟨b, o, none⟩) ∧ (∀ b o, b < W.heap.size → w1.frozen? ⟨b, o, none⟩ = W.frozen? ⟨b, o, none⟩) :=
  ⟨fun b o h => hb.cell (p := ⟨b, o, none⟩) h, fun b o h => hb.frozen (p := ⟨b, o, none⟩) h⟩
theorem cell_next {w w1 : World} {B b o : Nat} {v : Option Value} (hb : Below B w w1) (hB : b < B) (h : w.cell? ⟨b, o, none⟩ = v) : w1.cell? ⟨b, o, none⟩ = v := (hb.cell (p := ⟨b, o, none⟩) hB).trans h
theorem frozen_next {w w1 : World} {B b o : Nat} {v : Bool} (hb : Below B w w1) (hB : b < B) (h : w.frozen? ⟨b, o, none⟩ = v) : w1.frozen? ⟨b, o, none⟩ = v := (hb.frozen (p := ⟨b, o, none⟩) hB).trans h
theorem below1 {w w1 : World} {o : Obj} (h : Below (w.alloc o).heap.size (w.alloc o) w1) : Below w.heap.size w w1 := ((Below.refl _ _).alloc (Nat.le_refl _) _).trans (h.mono (by simp))
theorem below2 {w w1 : World} {o p : Obj} (h : Below ((w.alloc o).alloc p).heap.size ((w.alloc o).alloc p) w1) : Below w.heap.size w w1 := below1 (below1 h)
theorem below3 {w w1 : World} {o p q : Obj} (h : Below (((w.alloc o).alloc p).alloc q).heap.size (((w.alloc o).alloc p).alloc q) w1) : Below w.heap.size w w1 := below1 (below2 h)
theorem below4 {w w1 : World} {o p q r : Obj} (h : Below ((((w.alloc o).alloc p).alloc q).alloc r).heap.size ((((w.alloc o).alloc p).alloc q).alloc r) w1) : Below w.heap.size w w1 := below1 (below3 h)
theorem ret_int {k : IntKind} {a b : Int} (h : a = b) : Ending.returned (.int k a) = .returned (.int k b) := by rw [h]

set_option maxHeartbeats 400000 in
theorem validRange_any (lo hi : Int) (w : World) :
    Calls Try.prog 68 #[.agg #[.int .i64 lo, .int .i64 hi]] w fun e w' => e = .returned (.bool (vrB lo hi)) ∧ Below w.heap.size w w' := by
  by_cases h1 : -1000000000000000 ≤ lo <;> by_cases h2 : lo ≤ hi <;> by_cases h3 : hi ≤ 1000000000000000
  all_goals try (exfalso; omega)
  all_goals
    go_enter Try.func68, Try.ntmps68
    go_wp2
    go_ret
    exact ⟨by simp [vrB, *], (Below.refl _ _).alloc (Nat.le_refl _) _⟩

set_option maxHeartbeats 400000 in
theorem size_any (n : Int) (h1 : -9223372036854775808 ≤ n) (h2 : n ≤ 9223372036854775807) (w : World) :
    Calls Try.prog 94 #[.int .i64 n] w fun e w' => e = .returned (.int .u64 ((n.natAbs : Nat) : Int)) ∧ w = w' := by
  by_cases h : n < 0
  all_goals
    go_enter Try.func94, Try.ntmps94
    go_wp2
    go_ret
    refine ⟨ret_int ?_, rfl⟩
    try simp only [IntKind.wrap_u64]
    omega

open Go.RowKit Go.Lib
set_option linter.unusedVariables false
set_option linter.unusedSimpArgs false

theorem ret_ints2 {k l : IntKind} {a b c d : Int} (h1 : a = c) (h2 : b = d) : Ending.returned (.tuple #[.int k a, .int l b]) = .returned (.tuple #[.int k c, .int l d]) := by rw [h1, h2]

theorem quiet_left {P : Program} {f : FuncId} {args : Array Value} {w : World} {n : Nat} {v : Value}
    (h : Calls P f args (w.drewN n) fun e w' => e = .returned v ∧ w.drewN n = w') : Calls P f args (w.drewN n) fun e w'' => e = .returned v ∧ ∃ m, w'' = w.drewN m :=
  h.mono fun _ _ ⟨he, hm⟩ => ⟨he, n, hm.symm⟩

namespace Mul64
theorem maskN (a : Nat) (ha : a < 18446744073709551616) : bits .and .u64 (a : Int) 4294967295 = ((a % 4294967296 : Nat) : Int) := by
  have h := bits_and_u64_nat a 4294967295 ha (by omega)
  have e : a &&& 4294967295 = a % 4294967296 := Nat.and_two_pow_sub_one_eq_mod a 32
  rw [e] at h
  exact h
theorem divN (a : Nat) : (a : Int) / 4294967296 = ((a / 4294967296 : Nat) : Int) := by omega
theorem mulN (a b : Nat) : (a : Int) * (b : Int) = ((a * b : Nat) : Int) := (Int.natCast_mul a b).symm
theorem addN (a b : Nat) : (a : Int) + (b : Int) = ((a + b : Nat) : Int) := (Int.natCast_add a b).symm
theorem wrapN (a : Nat) (ha : a < 18446744073709551616) : IntKind.u64.wrap (a : Int) = (a : Int) := by rw [IntKind.wrap_u64]; omega
theorem wrapM (a : Nat) : IntKind.u64.wrap (a : Int) = ((a % 18446744073709551616 : Nat) : Int) := by rw [IntKind.wrap_u64]; omega
end Mul64

set_option maxHeartbeats 1000000 in
theorem mul64_any (x y : Nat) (hx : x < 18446744073709551616) (hy : y < 18446744073709551616) (w : World) :
    Calls Try.prog 93 #[.int .u64 x, .int .u64 y] w fun e w' => e = .returned (.tuple #[.int .u64 ((x * y / 18446744073709551616 : Nat) : Int), .int .u64 ((x * y % 18446744073709551616 : Nat) : Int)]) ∧ w = w' := by
  obtain ⟨bd, bt, bw, hhi⟩ := Lib.mul64_hi x y hx hy
  have ba := Lib.half_mul_le (a := x / 4294967296) (b := y / 4294967296) (by omega) (by omega)
  have bb := Lib.half_mul_le (a := x / 4294967296) (b := y % 4294967296) (by omega) (by omega)
  have bc := Lib.half_mul_le (a := x % 4294967296) (b := y / 4294967296) (by omega) (by omega)
  have ba' : x / 4294967296 * (y / 4294967296) < 18446744073709551616 := by omega
  have bb' : x / 4294967296 * (y % 4294967296) < 18446744073709551616 := by omega
  have bc' : x % 4294967296 * (y / 4294967296) < 18446744073709551616 := by omega
  have bh1 : x / 4294967296 * (y / 4294967296) + (x / 4294967296 * (y % 4294967296) + x % 4294967296 * (y % 4294967296) / 4294967296) / 4294967296 < 18446744073709551616 := by omega
  have bh : x / 4294967296 * (y / 4294967296) + (x / 4294967296 * (y % 4294967296) + x % 4294967296 * (y % 4294967296) / 4294967296) / 4294967296 + ((x / 4294967296 * (y % 4294967296) + x % 4294967296 * (y % 4294967296) / 4294967296) % 4294967296 + x % 4294967296 * (y / 4294967296)) / 4294967296 < 18446744073709551616 := by omega
  go_enter Try.func93, Try.ntmps93
  go_wp2
  simp only [Mul64.maskN x hx, Mul64.maskN y hy, Mul64.divN, Mul64.mulN, Mul64.addN, Mul64.wrapN _ bd, Mul64.wrapN _ bb', Mul64.wrapN _ bt, Mul64.maskN _ bt, Mul64.wrapN _ bc', Mul64.wrapN _ bw, Mul64.wrapN _ ba', Mul64.wrapN _ bh1, Mul64.wrapN _ bh, Mul64.wrapM (x * y)]
  rw [hhi]
  go_ret2
  exact ⟨rfl, rfl⟩

set_option maxHeartbeats 400000 in
theorem div64_lo (x y : Nat) (hx : x < 18446744073709551616) (hy0 : 0 < y) (hy : y < 18446744073709551616) (w : World) :
    Calls Try.prog 95 #[.int .u64 0, .int .u64 x, .int .u64 y] w fun e w' => e = .returned (.tuple #[.int .u64 ((x / y : Nat) : Int), .int .u64 ((x % y : Nat) : Int)]) ∧ ∃ n, w' = w.drewN n := by
  have h1 : ((y : Int) == 0) = false := by simp; omega
  have h2 : ¬ (y : Int) ≤ 0 := by omega
  have h3 : (1 : Int) ≤ (y : Int) := by omega
  go_enter Try.func95, Try.ntmps95
  go_wp2
  go_quiet (fail)
  go_wp2
  go_ret2
  refine ⟨ret_ints2 ?_ ?_, _, rfl⟩
  · rw [IntKind.wrap_u64, ← Int.natCast_ediv]
    have := Nat.div_le_self x y
    generalize x / y = q at *
    omega
  · rw [← Int.natCast_emod]

/-- the quotient, without signs: great numbers are cut at 'beyond', without a rest -/
def qW (a b c : Int) : Nat := if 1000000000000000000 < a.natAbs * b.natAbs / c.natAbs then 1000000000000000000 else a.natAbs * b.natAbs / c.natAbs
def qR (a b c : Int) : Nat := if 1000000000000000000 < a.natAbs * b.natAbs / c.natAbs then 0 else a.natAbs * b.natAbs % c.natAbs
def qNeg (a b c : Int) : Bool := ((decide (a < 0) != decide (b < 0)) != decide (c < 0))

def I64 (n : Int) : Prop := -9223372036854775808 ≤ n ∧ n ≤ 9223372036854775807

set_option maxHeartbeats 400000 in
theorem negative_any (a b c : Int) (w : World) :
    Calls Try.prog 84 #[.agg #[.int .i64 a, .int .i64 b, .int .i64 c]] w fun e w' => e = .returned (.bool (qNeg a b c)) ∧ Below w.heap.size w w' := by
  go_enter Try.func84, Try.ntmps84
  go_wp2
  go_ret
  exact ⟨rfl, (Below.refl _ _).alloc (Nat.le_refl _) _⟩

theorem mul64_small (x y p : Nat) (hp : Hid (x * y = p)) (hx : x < 18446744073709551616) (hy : y < 18446744073709551616) (hs : p < 18446744073709551616) (w : World) :
    Calls Try.prog 93 #[.int .u64 x, .int .u64 y] w fun e w' => e = .returned (.tuple #[.int .u64 0, .int .u64 p]) ∧ w = w' := by
  refine (mul64_any x y hx hy w).mono ?_
  rintro e w' ⟨rfl, rfl⟩
  have h := hp.out
  refine ⟨ret_ints2 ?_ ?_, rfl⟩
  · rw [h]; omega
  · rw [h]; omega

theorem qW_of (a b c : Int) (p : Nat) (hp : a.natAbs * b.natAbs = p) : qW a b c = if 1000000000000000000 < p / c.natAbs then 1000000000000000000 else p / c.natAbs := by unfold qW; rw [hp]
theorem qR_of (a b c : Int) (p : Nat) (hp : a.natAbs * b.natAbs = p) : qR a b c = if 1000000000000000000 < p / c.natAbs then 0 else p % c.natAbs := by unfold qR; rw [hp]

set_option maxHeartbeats 1000000 in
theorem divide_small (a b c : Int) (ha : I64 a) (hb : I64 b) (hc : I64 c) (hc0 : c ≠ 0) (hs : a.natAbs * b.natAbs < 18446744073709551616) (w : World) :
    Calls Try.prog 83 #[.agg #[.int .i64 a, .int .i64 b, .int .i64 c]] w fun e w' => e = .returned (.tuple #[.int .i64 (qW a b c), .int .i64 (qR a b c)]) ∧ Below w.heap.size w w' := by
  obtain ⟨a1, a2⟩ := ha
  obtain ⟨b1, b2⟩ := hb
  obtain ⟨c1, c2⟩ := hc
  obtain ⟨p, hp⟩ : ∃ p, a.natAbs * b.natAbs = p := ⟨_, rfl⟩
  obtain ⟨y, hy⟩ : ∃ y, c.natAbs = y := ⟨_, rfl⟩
  have eW := Lib.hid (qW_of a b c p hp)
  have eR := Lib.hid (qR_of a b c p hp)
  rw [hy] at eW eR
  rw [hp] at hs
  have HP := Lib.hid hp
  have y0 : (0 : Int) < (y : Int) := by omega
  have y1 : y < 18446744073709551616 := by omega
  have y2 : y ≤ 9223372036854775808 := by omega
  have hyc := Lib.hid hy
  clear hp hy hc0
  have Hlt : p % y < y := Nat.mod_lt _ (by omega)
  obtain ⟨q, hq⟩ : ∃ q, p / y = q := ⟨_, rfl⟩
  obtain ⟨r, hr⟩ : ∃ r, p % y = r := ⟨_, rfl⟩
  have hqp : p / y ≤ p := Nat.div_le_self p y
  rw [hq] at eW eR hqp
  rw [hr] at eR Hlt
  have Hq := Lib.hid hq
  have Hr := Lib.hid hr
  clear hq hr
  by_cases hg : (1000000000000000000 : Int) < (q : Int)
  all_goals
    go_enter Try.func83, Try.ntmps83
    go_wp2_with fail
    go_quiet ((first | (go_at_call 94; exact quiet_left (size_any _ (by assumption) (by assumption) _)) | (go_at_call 93; exact quiet_left (mul64_small a.natAbs b.natAbs p HP (by omega) (by omega) hs _))))
    go_wp2_with fail
    refine (size_any c c1 c2 _).mono ?_
    rintro e w1 ⟨rfl, rfl⟩
    rw [hyc.out]
    go_wp2_with fail
    refine (div64_lo p y hs (by omega) y1 _).mono ?_
    rintro e w1 ⟨rfl, n, rfl⟩
    rw [Hq.out, Hr.out]
    go_wp2
    go_ret2
    refine ⟨ret_ints2 ?_ ?_, below_drewN ((Below.refl _ _).alloc (Nat.le_refl _) _) _⟩
    · rw [eW.out]
      by_cases h : 1000000000000000000 < q
      · (rw [if_pos h]; try omega)
      · (rw [if_neg h]; try omega)
    · rw [eR.out]
      by_cases h : 1000000000000000000 < q
      · (rw [if_pos h]; try omega)
      · (rw [if_neg h]; try omega)

/-- the quotient, rounded down and rounded up -/
def qLo (a b c : Int) : Int := if qNeg a b c then -((qW a b c : Int) + if qR a b c = 0 then 0 else 1) else (qW a b c : Int)
def qHi (a b c : Int) : Int := if qNeg a b c then -(qW a b c : Int) else (qW a b c : Int) + if qR a b c = 0 then 0 else 1

theorem qLo_of {a b c : Int} {n : Bool} {q r : Nat} (h1 : qNeg a b c = n) (h2 : qW a b c = q) (h3 : qR a b c = r) : qLo a b c = if n then -((q : Int) + if r = 0 then 0 else 1) else (q : Int) := by unfold qLo; rw [h1, h2, h3]
theorem qHi_of {a b c : Int} {n : Bool} {q r : Nat} (h1 : qNeg a b c = n) (h2 : qW a b c = q) (h3 : qR a b c = r) : qHi a b c = if n then -(q : Int) else (q : Int) + if r = 0 then 0 else 1 := by unfold qHi; rw [h1, h2, h3]
theorem qW_le (a b c : Int) : qW a b c ≤ 1000000000000000000 := by unfold qW; split <;> omega

/-- what is known of divide -/
def Divides (a b c : Int) : Prop := ∀ w : World, Calls Try.prog 83 #[.agg #[.int .i64 a, .int .i64 b, .int .i64 c]] w fun e w' => e = .returned (.tuple #[.int .i64 (qW a b c), .int .i64 (qR a b c)]) ∧ Below w.heap.size w w'

set_option maxHeartbeats 1000000 in
theorem around_of (a b c : Int) (hd : Divides a b c) (w : World) :
    Calls Try.prog 67 #[.agg #[.int .i64 a, .int .i64 b, .int .i64 c]] w fun e w' => e = .returned (.agg #[.int .i64 (qLo a b c), .int .i64 (qHi a b c)]) ∧ Below w.heap.size w w' := by
  obtain ⟨n, hn⟩ : ∃ n, qNeg a b c = n := ⟨_, rfl⟩
  obtain ⟨q, hq⟩ : ∃ q, qW a b c = q := ⟨_, rfl⟩
  obtain ⟨r, hr⟩ : ∃ r, qR a b c = r := ⟨_, rfl⟩
  have eL := Lib.hid (qLo_of hn hq hr)
  have eH := Lib.hid (qHi_of hn hq hr)
  have qb := qW_le a b c
  rw [hq] at qb
  have cd : Hid (∀ w : World, Calls Try.prog 83 #[.agg #[.int .i64 a, .int .i64 b, .int .i64 c]] w fun e w' => e = .returned (.tuple #[.int .i64 q, .int .i64 r]) ∧ Below w.heap.size w w') := by
    intro w
    refine (hd w).mono ?_
    rintro e w' ⟨rfl, hb⟩
    exact ⟨by rw [hq, hr], hb⟩
  have cn : Hid (∀ w : World, Calls Try.prog 84 #[.agg #[.int .i64 a, .int .i64 b, .int .i64 c]] w fun e w' => e = .returned (.bool n) ∧ Below w.heap.size w w') := by
    intro w
    refine (negative_any a b c w).mono ?_
    rintro e w' ⟨rfl, hb⟩
    exact ⟨by rw [hn], hb⟩
  clear hn hq hr hd
  obtain rfl | hr0 : r = 0 ∨ 0 < r := by omega
  all_goals cases n
  all_goals
    go_enter Try.func67, Try.ntmps67
    go_wp2_with fail
    refine (cd.out _).mono ?_
    rintro e w1 ⟨rfl, hb1⟩
    obtain ⟨hc1, hf1⟩ := bcell hb1
    have hz1 := hb1.size
    try simp at hz1
    have hz1a : w.heap.size < w1.heap.size := by omega
    have hz1b : w.heap.size + 1 < w1.heap.size := by omega
    go_wp2_with fail
    refine (cn.out _).mono ?_
    rintro e w2 ⟨rfl, hb2⟩
    obtain ⟨hc2, hf2⟩ := bcell hb2
    have hz2 := hb2.size
    try simp at hz2
    go_wp2_with fail
    refine bodyPost_ret (v := .agg #[.int .i64 (qLo a b c), .int .i64 (qHi a b c)]) (by rw [eL.out, eH.out]; first | simp [results, Try.results67, go_sem, hc2, hc1, hz2, hz1a, hz1b, Nat.ne_of_gt hr0] | simp [results, Try.results67, go_sem, hc2, hc1, hz2, hz1a, hz1b]) rfl ⟨rfl, ?_⟩
    exact ((((((Below.refl _ _).alloc (Nat.le_refl _) _).alloc (by simp) _).trans (hb1.mono (by simp; omega))).trans (hb2.mono (by omega))).setCell (by simp) _).setCell (by simp) _

open Go.RowKit Go.Lib
set_option linter.unusedVariables false
set_option linter.unusedSimpArgs false

theorem alloc_alloc_new (w : World) (o p : Obj) : ((w.alloc o).alloc p).heap[w.heap.size + 1]? = some p := by
  have h := heap_alloc_new (w.alloc o) p
  simpa using h
theorem cells3 {w : World} {g : Nat} {a b c : Value} (h0 : w.cell? ⟨g, 0, none⟩ = some a) (h1 : w.cell? ⟨g, 1, none⟩ = some b) (h2 : w.cell? ⟨g, 2, none⟩ = some c) :
    ∀ j v, [a, b, c][j]? = some v → w.cell? ⟨g, j, none⟩ = some v := by
  intro j v hj
  rcases j with _ | _ | _ | j
  · simp at hj; subst hj; exact h0
  · simp at hj; subst hj; exact h1
  · simp at hj; subst hj; exact h2
  · simp at hj
theorem cells2 {w : World} {g : Nat} {a b : Value} (h0 : w.cell? ⟨g, 0, none⟩ = some a) (h1 : w.cell? ⟨g, 1, none⟩ = some b) :
    ∀ j v, [a, b][j]? = some v → w.cell? ⟨g, j, none⟩ = some v := by
  intro j v hj
  rcases j with _ | _ | j
  · simp at hj; subst hj; exact h0
  · simp at hj; subst hj; exact h1
  · simp at hj

theorem row3 {W : World} {g : Nat} {t : TypeId} {x y z a b c : Value} (h : Hid (W.heap[g]? = some (.cells (splice [x, y, z] 0 [a, b, c]).toArray t (0, 0)))) :
    W.cell? ⟨g, 0, none⟩ = some a ∧ W.cell? ⟨g, 1, none⟩ = some b ∧ W.cell? ⟨g, 2, none⟩ = some c ∧ W.frozen? ⟨g, 0, none⟩ = false ∧ W.frozen? ⟨g, 1, none⟩ = false ∧ W.frozen? ⟨g, 2, none⟩ = false := by
  have h' := h.out
  refine ⟨?_, ?_, ?_, ?_, ?_, ?_⟩
  · rw [cell_of_row W g 0 _ t (0, 0) h']; rfl
  · rw [cell_of_row W g 1 _ t (0, 0) h']; rfl
  · rw [cell_of_row W g 2 _ t (0, 0) h']; rfl
  · simp [World.frozen?, h']
  · simp [World.frozen?, h']
  · simp [World.frozen?, h']

theorem row2 {W : World} {g : Nat} {t : TypeId} {x y z a b : Value} (h : Hid (W.heap[g]? = some (.cells (splice [x, y, z] 0 [a, b]).toArray t (0, 0)))) :
    W.cell? ⟨g, 0, none⟩ = some a ∧ W.cell? ⟨g, 1, none⟩ = some b ∧ W.cell? ⟨g, 2, none⟩ = some z ∧ W.frozen? ⟨g, 0, none⟩ = false ∧ W.frozen? ⟨g, 1, none⟩ = false ∧ W.frozen? ⟨g, 2, none⟩ = false := by
  have h' := h.out
  refine ⟨?_, ?_, ?_, ?_, ?_, ?_⟩
  · rw [cell_of_row W g 0 _ t (0, 0) h']; rfl
  · rw [cell_of_row W g 1 _ t (0, 0) h']; rfl
  · rw [cell_of_row W g 2 _ t (0, 0) h']; rfl
  · simp [World.frozen?, h']
  · simp [World.frozen?, h']
  · simp [World.frozen?, h']

set_option maxRecDepth 20000 in
set_option maxHeartbeats 400000 in
theorem quotientOf3 (a b c : Int) (g : Nat) (w : World) (hg : g < w.heap.size) (h0 : w.cell? ⟨g, 0, none⟩ = some (.int .i64 a)) (h1 : w.cell? ⟨g, 1, none⟩ = some (.int .i64 b)) (h2 : w.cell? ⟨g, 2, none⟩ = some (.int .i64 c)) :
    Calls Try.prog 66 #[.slice (some ⟨g, 0, none⟩) 3 3] w fun e w' => e = .returned (.agg #[.int .i64 a, .int .i64 b, .int .i64 c]) ∧ Below w.heap.size w w' := by
  have hsrc := Lib.hid (cells3 h0 h1 h2)
  clear h0 h1 h2
  go_enter Try.func66, Try.ntmps66
  go_wp2_with (refine wpList_copy_splice (o := ⟨some 7, _, _, _, _, _⟩) rfl (.tmp 5) (.tmp 6) 35 35 rfl 3 Try.underlying35 (by kernel_rfl) (some ⟨w.heap.size + 1, 0, none⟩) (some ⟨g, 0, none⟩) 3 3 3 3 rfl rfl (w.heap.size + 1) 0 [.int .i64 1, .int .i64 1, .int .i64 1] 134 ?c1 [.int .i64 a, .int .i64 b, .int .i64 c] rfl ?c2 ?c3 ?c4 (w.heap.size + 1) (w.alloc (.cells #[.int .i64 0, .int .i64 0, .int .i64 0] 134)) ?c5 ?c6 ?_)
  case c1 => exact alloc_alloc_new w _ _
  case c2 => exact hsrc.out
  case c3 => simp
  case c4 => simp [Value.oneCell']
  case c5 => exact (Below.refl _ _).alloc (by simp) _
  case c6 => omega
  intro W hW hbW
  obtain ⟨e0, e1, e2, f0, f1, f2⟩ := row3 hW
  have hz := hbW.size
  have hc0 := hbW.cell (p := ⟨w.heap.size, 0, none⟩) (by simp)
  have hc1 := hbW.cell (p := ⟨w.heap.size, 1, none⟩) (by simp)
  have hc2 := hbW.cell (p := ⟨w.heap.size, 2, none⟩) (by simp)
  have hf0 := hbW.frozen (p := ⟨w.heap.size, 0, none⟩) (by simp)
  have hf1 := hbW.frozen (p := ⟨w.heap.size, 1, none⟩) (by simp)
  have hf2 := hbW.frozen (p := ⟨w.heap.size, 2, none⟩) (by simp)
  clear hW
  go_wp2
  refine bodyPost_ret (v := .agg #[.int .i64 a, .int .i64 b, .int .i64 c]) (by simp [results, Try.results66, go_sem, hc0, hc1, hc2, hf0, hf1, hf2]) rfl ⟨rfl, ?_⟩
  exact (((((Below.refl _ _).alloc (Nat.le_refl _) _).trans (hbW.mono (by omega))).setCell (by simp) _).setCell (by simp) _).setCell (by simp) _

set_option maxRecDepth 20000 in
set_option maxHeartbeats 400000 in
theorem quotientOf2 (a b : Int) (g : Nat) (w : World) (hg : g < w.heap.size) (h0 : w.cell? ⟨g, 0, none⟩ = some (.int .i64 a)) (h1 : w.cell? ⟨g, 1, none⟩ = some (.int .i64 b)) :
    Calls Try.prog 66 #[.slice (some ⟨g, 0, none⟩) 2 2] w fun e w' => e = .returned (.agg #[.int .i64 a, .int .i64 b, .int .i64 1]) ∧ Below w.heap.size w w' := by
  have hsrc := Lib.hid (cells2 h0 h1)
  clear h0 h1
  go_enter Try.func66, Try.ntmps66
  go_wp2_with (refine wpList_copy_splice (o := ⟨some 7, _, _, _, _, _⟩) rfl (.tmp 5) (.tmp 6) 35 35 rfl 3 Try.underlying35 (by kernel_rfl) (some ⟨w.heap.size + 1, 0, none⟩) (some ⟨g, 0, none⟩) 3 3 2 2 rfl rfl (w.heap.size + 1) 0 [.int .i64 1, .int .i64 1, .int .i64 1] 134 ?c1 [.int .i64 a, .int .i64 b] rfl ?c2 ?c3 ?c4 (w.heap.size + 1) (w.alloc (.cells #[.int .i64 0, .int .i64 0, .int .i64 0] 134)) ?c5 ?c6 ?_)
  case c1 => exact alloc_alloc_new w _ _
  case c2 => exact hsrc.out
  case c3 => simp
  case c4 => simp [Value.oneCell']
  case c5 => exact (Below.refl _ _).alloc (by simp) _
  case c6 => omega
  intro W hW hbW
  obtain ⟨e0, e1, e2, f0, f1, f2⟩ := row2 hW
  have hz := hbW.size
  have hc0 := hbW.cell (p := ⟨w.heap.size, 0, none⟩) (by simp)
  have hc1 := hbW.cell (p := ⟨w.heap.size, 1, none⟩) (by simp)
  have hc2 := hbW.cell (p := ⟨w.heap.size, 2, none⟩) (by simp)
  have hf0 := hbW.frozen (p := ⟨w.heap.size, 0, none⟩) (by simp)
  have hf1 := hbW.frozen (p := ⟨w.heap.size, 1, none⟩) (by simp)
  have hf2 := hbW.frozen (p := ⟨w.heap.size, 2, none⟩) (by simp)
  clear hW
  go_wp2
  refine bodyPost_ret (v := .agg #[.int .i64 a, .int .i64 b, .int .i64 1]) (by simp [results, Try.results66, go_sem, hc0, hc1, hc2, hf0, hf1, hf2]) rfl ⟨rfl, ?_⟩
  exact (((((Below.refl _ _).alloc (Nat.le_refl _) _).trans (hbW.mono (by omega))).setCell (by simp) _).setCell (by simp) _).setCell (by simp) _

open Go.RowKit Go.Lib
set_option linter.unusedVariables false
set_option linter.unusedSimpArgs false

/-- the ranges xs lie one after another in block g, from off on -/
def RRd (w : World) (g off : Nat) (xs : List (Int × Int)) : Prop :=
  ∀ k p, xs[k]? = some p → w.cell? ⟨g, off + k * 2, none⟩ = some (.int .i64 p.1) ∧ w.cell? ⟨g, off + k * 2 + 1, none⟩ = some (.int .i64 p.2)
theorem RRd.keep {w w' : World} {g off : Nat} {xs : List (Int × Int)} (h : RRd w g off xs) (hk : ∀ o, w'.cell? ⟨g, o, none⟩ = w.cell? ⟨g, o, none⟩) : RRd w' g off xs :=
  fun k p hp => ⟨(hk _).trans (h k p hp).1, (hk _).trans (h k p hp).2⟩
theorem RRd.below {w w' : World} {B g off : Nat} {xs : List (Int × Int)} (h : RRd w g off xs) (hb : Below B w w') (hg : g < B) : RRd w' g off xs :=
  h.keep fun o => hb.cell (p := ⟨g, o, none⟩) hg

/-- how two ranges are joined, as the program's function F does it -/
def JoinAt (F : Nat) (J : Int × Int → Int × Int → Int × Int) (D : Int × Int → Prop) : Prop :=
  ∀ (a b : Int × Int) (w : World), D a → D b → Calls Try.prog F #[.agg #[.int .i64 a.1, .int .i64 a.2], .agg #[.int .i64 b.1, .int .i64 b.2]] w fun e w' => e = .returned (.agg #[.int .i64 (J a b).1, .int .i64 (J a b).2]) ∧ Below w.heap.size w w'

set_option maxHeartbeats 1000000 in
theorem together_any (F : Nat) (J : Int × Int → Int × Int → Int × Int) (D : Int × Int → Prop) (hE : ∀ args w, (callFunc F args).run Try.prog w = .ok (.enter F args) w) (hJ : JoinAt F J D) (hD : ∀ a b, D a → D b → D (J a b)) (lo hi : Int) (h0 : D (lo, hi)) (g off : Nat) (xs : List (Int × Int)) (c : Nat) (w : World)
    (hx : ∀ p ∈ xs, D p) (hg : g < w.heap.size) (hr : RRd w g off xs) (hl : xs.length ≤ 1000000) :
    Calls Try.prog 85 #[.agg #[.int .i64 lo, .int .i64 hi], .slice (some ⟨g, off, none⟩) xs.length c, .func (Fn.func F) #[] #[]] w fun e w' =>
      e = .returned (.agg #[.int .i64 (xs.foldl J (lo, hi)).1, .int .i64 (xs.foldl J (lo, hi)).2]) ∧ Below w.heap.size w w' := by
  obtain ⟨n, hn⟩ : ∃ n, xs.length = n := ⟨_, rfl⟩
  rw [hn] at hl ⊢
  have Hn := Lib.hid hn
  clear hn
  have HJ := Lib.hid hJ
  have HD := Lib.hid hD
  have H0 := Lib.hid h0
  have HX := Lib.hid hx
  have HR := Lib.hid hr
  clear hJ hD h0 hx hr
  go_enter Try.func85, Try.ntmps85
  go_wp2_with fail
  go_loopw [11] (fun i wr => ∃ (k : Nat) (a : Int × Int), k ≤ n ∧ i = .int .i64 k ∧ Hid (a = (xs.take k).foldl J (lo, hi)) ∧ D a ∧ wr.cell? ⟨w.heap.size, 0, none⟩ = some (.int .i64 a.1) ∧ wr.cell? ⟨w.heap.size, 1, none⟩ = some (.int .i64 a.2) ∧ wr.frozen? ⟨w.heap.size, 0, none⟩ = false ∧ wr.frozen? ⟨w.heap.size, 1, none⟩ = false ∧
      wr.cell? ⟨w.heap.size + 1, 0, none⟩ = some (.int .i64 0) ∧ wr.cell? ⟨w.heap.size + 1, 1, none⟩ = some (.int .i64 0) ∧ wr.frozen? ⟨w.heap.size + 1, 0, none⟩ = false ∧ wr.frozen? ⟨w.heap.size + 1, 1, none⟩ = false ∧ w.heap.size + 1 < wr.heap.size ∧ Below w.heap.size w wr) (fun i _ => n - (RowKit.intOf i).toNat)
  case atStart =>
    refine ⟨0, (lo, hi), Nat.zero_le _, rfl, Lib.hid rfl, H0.out, ?_, ?_, ?_, ?_, ?_, ?_, ?_, ?_, ?_, ?_⟩
    all_goals first | (simp; done) | exact ((Below.refl _ _).alloc (Nat.le_refl _) _).alloc (by simp) _
  case round =>
    obtain ⟨k, a, hk, rfl, ha, hDa, c0, c1, f0, f1, d0, d1, e0, e1, hz, hbr⟩ := hrel
    have hz0 : w.heap.size < wr.heap.size := by omega
    have hz0e : w.heap.size ≤ wr.heap.size := by omega
    have hgw : g < wr.heap.size := by omega
    by_cases hlt : k < n
    · have hkl : k < xs.length := by rw [Hn.out]; exact hlt
      obtain ⟨p, hp⟩ : ∃ p, xs[k]? = some p := ⟨_, List.getElem?_eq_getElem hkl⟩
      have hpD : D p := HX.out p (List.mem_of_getElem? hp)
      obtain ⟨q0, q1⟩ := (HR.out.below hbr hg) k p hp
      have hp' := Lib.hid hp
      clear hp
      go_wp2_with fail
      refine (HJ.out a p _ hDa hpD).mono ?_
      rintro e w1 ⟨rfl, hb1⟩
      have hDq := HD.out a p hDa hpD
      have haq : Hid (J a p = (xs.take (k + 1)).foldl J (lo, hi)) := Lib.hid (by rw [List.take_add_one, hp'.out, List.foldl_append, ← ha.out]; rfl)
      generalize J a p = q at *
      have hB1 := below1 hb1
      have hz1 := hB1.size
      replace c0 := cell_next hB1 hz0 c0
      replace c1 := cell_next hB1 hz0 c1
      replace f0 := frozen_next hB1 hz0 f0
      replace f1 := frozen_next hB1 hz0 f1
      replace d0 := cell_next hB1 hz d0
      replace d1 := cell_next hB1 hz d1
      replace e0 := frozen_next hB1 hz e0
      replace e1 := frozen_next hB1 hz e1
      replace hbr := hbr.trans (hB1.mono (by omega))
      clear hb1 hB1 q0 q1
      go_wp2_with fail
      go_roundw
      case rel =>
        refine ⟨k + 1, q, by omega, by go_num, haq, hDq, ?_, ?_, ?_, ?_, ?_, ?_, ?_, ?_, by simp; omega, (hbr.setCell (p := ⟨w.heap.size, 0, none⟩) (Nat.le_refl _) _).setCell (p := ⟨w.heap.size, 1, none⟩) (Nat.le_refl _) _⟩
        all_goals simp [go_sem, *]
      case measure => simp [RowKit.intOf]; omega
    · obtain rfl : k = n := by omega
      have hfin : a = xs.foldl J (lo, hi) := by rw [ha.out, List.take_of_length_le (by rw [Hn.out]; omega)]
      have Hfin := Lib.hid hfin
      clear hfin ha
      go_wp2_with fail
      refine bodyPost_ret (v := .agg #[.int .i64 a.1, .int .i64 a.2]) (by simp [results, Try.results85, go_sem, *]) rfl ⟨by rw [Hfin.out], ?_⟩
      exact (hbr.setCell (by simp) _).setCell (by simp) _

open Go.RowKit Go.Lib Go.Shelf
set_option linter.unusedVariables false
set_option linter.unusedSimpArgs false

theorem enters_hull : ∀ args w, (callFunc 86 args).run Try.prog w = .ok (.enter 86 args) w := enters_of Try.func86 (by kernel_rfl) rfl

def hullJ (a b : Int × Int) : Int × Int := (min a.1 b.1, max a.2 b.2)
theorem hullJ_mk (a b c d : Int) : hullJ (a, b) (c, d) = (min a c, max b d) := rfl

set_option maxHeartbeats 400000 in
theorem hull1_any (a b c d : Int) (w : World) : Calls Try.prog 86 #[.agg #[.int .i64 a, .int .i64 b], .agg #[.int .i64 c, .int .i64 d]] w fun e w' => e = .returned (.agg #[.int .i64 (min a c), .int .i64 (max b d)]) ∧ Below w.heap.size w w' := by
  go_enter Try.func86, Try.ntmps86
  go_wp2
  all_goals
    refine bodyPost_ret (v := .agg #[.int .i64 (min a c), .int .i64 (max b d)]) (by simp [results, Try.results86, go_sem]; omega) rfl ⟨rfl, ?_⟩
    exact ((((Below.refl _ _).alloc (Nat.le_refl _) _).alloc (by simp) _).alloc (by simp; omega) _)

theorem hull1_join : JoinAt 86 hullJ (fun _ => True) := fun a b w _ _ => hull1_any a.1 a.2 b.1 b.2 w

set_option maxHeartbeats 400000 in
theorem hull_any (lo hi : Int) (g off : Nat) (xs : List (Int × Int)) (c : Nat) (w : World) (hg : g < w.heap.size) (hr : RRd w g off xs) (hl : xs.length ≤ 1000000) :
    Calls Try.prog 69 #[.agg #[.int .i64 lo, .int .i64 hi], .slice (some ⟨g, off, none⟩) xs.length c] w fun e w' =>
      e = .returned (.agg #[.int .i64 (xs.foldl hullJ (lo, hi)).1, .int .i64 (xs.foldl hullJ (lo, hi)).2]) ∧ Below w.heap.size w w' := by
  have hc : Hid (∀ W : World, Below w.heap.size w W → Calls Try.prog 85 #[.agg #[.int .i64 lo, .int .i64 hi], .slice (some ⟨g, off, none⟩) xs.length c, .func (Fn.func 86) #[] #[]] W fun e w' =>
      e = .returned (.agg #[.int .i64 (xs.foldl hullJ (lo, hi)).1, .int .i64 (xs.foldl hullJ (lo, hi)).2]) ∧ Below W.heap.size W w') := fun W hb => by
    have hz := hb.size
    exact together_any 86 hullJ (fun _ => True) enters_hull hull1_join (fun _ _ _ _ => trivial) lo hi trivial g off xs c W (fun _ _ => trivial) (by omega) (hr.below hb hg) hl
  generalize xs.foldl hullJ (lo, hi) = q at *
  generalize xs.length = n at *
  clear hr
  go_enter Try.func69, Try.ntmps69
  go_wp2_with fail
  refine (hc.out _ (((Below.refl _ _).alloc (Nat.le_refl _) _).alloc (by simp) _)).mono ?_
  rintro e w1 ⟨rfl, hb1⟩
  have d0 := cell_next hb1 (b := w.heap.size + 1) (o := 0) (by simp) (v := some (.int .i64 0)) (by simp)
  have d1 := cell_next hb1 (b := w.heap.size + 1) (o := 1) (by simp) (v := some (.int .i64 0)) (by simp)
  have e0 := frozen_next hb1 (b := w.heap.size + 1) (o := 0) (by simp) (v := false) (by simp)
  have e1 := frozen_next hb1 (b := w.heap.size + 1) (o := 1) (by simp) (v := false) (by simp)
  have hB := below2 hb1
  clear hb1
  go_wp2_with fail
  refine bodyPost_ret (v := .agg #[.int .i64 q.1, .int .i64 q.2]) (by simp [results, Try.results69, go_sem, *]) rfl ⟨rfl, ?_⟩
  exact (hB.setCell (by simp) _).setCell (by simp) _
end Go.Proofs.Ytfdaiififoomoaa
