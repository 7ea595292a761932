/- Plain arithmetic: how many rounds a concentration needs; what more that passes does to it. -/
import Derived.Test.YtdlmkjllcejoaaaJ11
namespace Go.Proofs.Ytdlmkjllcejoaaa
set_option linter.unusedVariables false

/-- a concentration is reached -/
def dnB (b : Nat) (x : Nat × Nat) : Bool := decide (0 < x.2) && decide (b * (x.1 + x.2) ≤ x.2 * 10000)
/-- the first number below N for which f holds, or -1 -/
def fstI (f : Nat → Bool) : Nat → Int
  | 0 => -1
  | n + 1 => if 0 ≤ fstI f n then fstI f n else if f n = true then (n : Int) else -1
theorem fstI_spec (f : Nat → Bool) : ∀ N, (fstI f N = -1 ∧ ∀ j, j < N → f j = false) ∨ ∃ k, k < N ∧ fstI f N = (k : Int) ∧ f k = true ∧ ∀ j, j < k → f j = false
  | 0 => .inl ⟨rfl, fun j h => absurd h (Nat.not_lt_zero j)⟩
  | n + 1 => by
    rcases fstI_spec f n with ⟨h1, h2⟩ | ⟨k, hk, h1, h2, h3⟩
    · by_cases hf : f n = true
      · exact .inr ⟨n, by omega, by simp [fstI, h1, hf], hf, h2⟩
      · refine .inl ⟨by simp [fstI, h1, hf], fun j hj => ?_⟩
        rcases Nat.lt_or_ge j n with h | h
        · exact h2 j h
        · obtain rfl : j = n := by omega
          simpa using hf
    · exact .inr ⟨k, by omega, by simp [fstI, h1], h2, h3⟩
theorem fstI_at {f : Nat → Bool} {N k : Nat} (hk : k < N) (h : f k = true) (hj : ∀ j, j < k → f j = false) : fstI f N = (k : Int) := by
  rcases fstI_spec f N with ⟨_, h2⟩ | ⟨m, hm, h1, h2, h3⟩
  · rw [h2 k hk] at h; cases h
  · rcases Nat.lt_trichotomy m k with c | c | c
    · rw [hj m c] at h2; cases h2
    · rw [h1, c]
    · rw [h3 k c] at h; cases h
theorem fstI_no {f : Nat → Bool} {N : Nat} (hj : ∀ j, j < N → f j = false) : fstI f N = -1 := by
  rcases fstI_spec f N with ⟨h1, _⟩ | ⟨m, hm, h1, h2, h3⟩
  · exact h1
  · rw [hj m hm] at h2; cases h2
theorem fstI_rng (f : Nat → Bool) (N : Nat) : -1 ≤ fstI f N ∧ fstI f N < N := by
  rcases fstI_spec f N with ⟨h1, _⟩ | ⟨m, hm, h1, h2, h3⟩ <;> omega
/-- where g holds wherever f does, it holds no later -/
theorem fstI_le {f g : Nat → Bool} {N : Nat} (h : ∀ k, f k = true → g k = true) (hf : fstI f N ≠ -1) : fstI g N ≠ -1 ∧ 0 ≤ fstI g N ∧ fstI g N ≤ fstI f N := by
  rcases fstI_spec f N with ⟨h1, _⟩ | ⟨m, hm, h1, h2, h3⟩
  · exact absurd h1 hf
  · rcases fstI_spec g N with ⟨g1, g2⟩ | ⟨n, hn, g1, g2, g3⟩
    · have := g2 m hm
      rw [h m h2] at this; cases this
    · rcases Nat.lt_or_ge m n with c | c
      · have := g3 m c
        rw [h m h2] at this; cases this
      · omega

/-- rounds of one kind -/
def lsI (b t p : Nat) (x : Nat × Nat) (most : Nat) : Int := fstI (fun k => dnB b (rk t p x k)) (most + 1)

theorem offS_sugar (w s d t p : Nat) (hw : 0 < w) (ht : t ≤ 10000) (hp : p ≤ 10000) : offS w (s + d) t p ≤ offS w s t p + d := by
  unfold offS
  have ho := offW_le w t ht
  generalize offW w t = o at *
  have h1 : d * p * o ≤ d * (w * 10000) := by
    calc d * p * o ≤ d * 10000 * w := Nat.mul_le_mul (Nat.mul_le_mul_left _ hp) ho
      _ = d * (w * 10000) := by rw [Nat.mul_assoc, Nat.mul_comm 10000 w]
  have hD : 0 < w * 10000 := by omega
  have h2 : (s + d) * p * o ≤ s * p * o + d * (w * 10000) := by
    rw [Nat.add_mul, Nat.add_mul]; omega
  generalize w * 10000 = D at *
  refine Nat.le_trans (Nat.div_le_div_right h2) ?_
  rw [Nat.add_mul_div_right _ _ hD]
  exact Nat.le_refl _
theorem offS_pass (w s t p p' : Nat) (hp : p ≤ p') : offS w s t p ≤ offS w s t p' := by
  unfold offS
  exact Nat.div_le_div_right (Nat.mul_le_mul_right _ (Nat.mul_le_mul_left _ hp))
/-- the more passes, the less sugar is kept, beside the same water -/
theorem rk_pass (t p p' : Nat) (x : Nat × Nat) (ht : t ≤ 10000) (hp : p ≤ p') (hp' : p' ≤ 10000) : ∀ k, (rk t p' x k).1 = (rk t p x k).1 ∧ (rk t p' x k).2 ≤ (rk t p x k).2
  | 0 => ⟨rfl, Nat.le_refl _⟩
  | k + 1 => by
    obtain ⟨h1, h2⟩ := rk_pass t p p' x ht hp hp' k
    show (rk t p' x k).1 - offW (rk t p' x k).1 t = (rk t p x k).1 - offW (rk t p x k).1 t ∧ (rk t p' x k).2 - offS (rk t p' x k).1 (rk t p' x k).2 t p' ≤ (rk t p x k).2 - offS (rk t p x k).1 (rk t p x k).2 t p
    rw [h1]
    refine ⟨rfl, ?_⟩
    generalize (rk t p x k).1 = w at *
    generalize (rk t p x k).2 = s at *
    generalize (rk t p' x k).2 = s' at *
    rcases Nat.eq_zero_or_pos w with rfl | hw
    · simp [offS]; exact h2
    · obtain ⟨d, rfl⟩ : ∃ d, s = s' + d := ⟨s - s', by omega⟩
      have a1 := offS_sugar w s' d t p hw ht (by omega)
      have a2 := offS_pass w s' t p p' hp
      have a3 := offS_le w s' t p' ht hp'
      omega
theorem dnB_mono (b w s s' : Nat) (hb : b ≤ 10000) (h : s' ≤ s) (hd : dnB b (w, s') = true) : dnB b (w, s) = true := by
  simp only [dnB, Bool.and_eq_true, decide_eq_true_eq] at hd ⊢
  obtain ⟨h1, h2⟩ := hd
  refine ⟨by omega, ?_⟩
  obtain ⟨d, rfl⟩ : ∃ d, s = s' + d := ⟨s - s', by omega⟩
  have : b * d ≤ 10000 * d := Nat.mul_le_mul_right _ hb
  rw [← Nat.add_assoc, Nat.mul_add, Nat.add_mul]
  omega
theorem dn_pass (b t p p' : Nat) (x : Nat × Nat) (hb : b ≤ 10000) (ht : t ≤ 10000) (hp : p ≤ p') (hp' : p' ≤ 10000) (k : Nat) (h : dnB b (rk t p' x k) = true) : dnB b (rk t p x k) = true := by
  obtain ⟨h1, h2⟩ := rk_pass t p p' x ht hp hp' k
  have e : rk t p' x k = ((rk t p x k).1, (rk t p' x k).2) := by rw [← h1]
  rw [e] at h
  exact dnB_mono b _ _ _ hb h2 h
/-- and the more rounds are needed -/
theorem lsI_pass (b t p p' : Nat) (x : Nat × Nat) (most : Nat) (hb : b ≤ 10000) (ht : t ≤ 10000) (hp : p ≤ p') (hp' : p' ≤ 10000) (h : lsI b t p' x most ≠ -1) :
    lsI b t p x most ≠ -1 ∧ 0 ≤ lsI b t p x most ∧ lsI b t p x most ≤ lsI b t p' x most :=
  fstI_le (fun k => dn_pass b t p p' x hb ht hp hp' k) h
theorem rk_add (t p : Nat) (x : Nat × Nat) (a : Nat) : ∀ b, rk t p x (a + b) = rk t p (rk t p x a) b
  | 0 => rfl
  | b + 1 => by
    show stp t p (rk t p x (a + b)) = stp t p (rk t p (rk t p x a) b)
    rw [rk_add t p x a b]
end Go.Proofs.Ytdlmkjllcejoaaa

