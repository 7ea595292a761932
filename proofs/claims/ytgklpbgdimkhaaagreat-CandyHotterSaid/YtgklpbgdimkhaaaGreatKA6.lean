/- Contracts: C28, C29, P11, C30, T4, joined. -/
import Derived.Test.YtgklpbgdimkhaaaGreatKA5
import Derived.Test.YtgklpbgdimkhaaaGreatKA4
import Derived.Test.YtgklpbgdimkhaaaGreatT3
namespace Go.Proofs.YtgklpbgdimkhaaaGreat
open Go.RowKit Go.Lib Go.Shelf
set_option linter.unusedVariables false
set_option linter.unusedSimpArgs false
attribute [local go_sem ↓] Go.wp_at_zero Go.wp_at_succ

open Go.RowKit Go.Lib Go.Shelf
set_option linter.unusedVariables false
set_option linter.unusedSimpArgs false
attribute [local go_sem ↓] Go.wp_at_zero Go.wp_at_succ

open Go.Lib
set_option linter.unusedVariables false
set_option linter.unusedSimpArgs false

theorem valV_row {xs : List (Int × Int)} (ht : TabOk xs) {p : Int × Int} (hp : p ∈ xs) : valV xs p.1 = (p.2, p.2) := by
  obtain ⟨k, hk, e⟩ := List.mem_iff_getElem.1 hp
  have h1 : xs[k]? = some p := by rw [List.getElem?_eq_getElem hk, e]
  by_cases hn : k + 1 < xs.length
  · obtain ⟨q, hq⟩ : ∃ q, xs[k + 1]? = some q := ⟨_, List.getElem?_eq_getElem hn⟩
    have hpq := ht.2.2.2 k (k + 1) p q (by omega) h1 hq
    exact valV_is ht ⟨k, p, q, h1, hq, Int.le_refl _, by omega, (segV_left hpq).symm⟩
  · obtain ⟨j, rfl⟩ : ∃ j, k = j + 1 := ⟨k - 1, by have := ht.1; omega⟩
    obtain ⟨q, hq⟩ : ∃ q, xs[j]? = some q := ⟨_, List.getElem?_eq_getElem (by omega)⟩
    have hpq := ht.2.2.2 j (j + 1) q p (by omega) hq h1
    exact valV_is ht ⟨j, q, p, hq, h1, by omega, Int.le_refl _, (segV_right hpq).symm⟩
def vsJ (a b : Int) (s p : Int × Int) : Int × Int := if a < p.1 ∧ p.1 < b then (min s.1 p.2, max s.2 p.2) else s
def vsK (a b : Int) (s p : Int × Int) : Int × Int := if a ≤ p.1 ∧ p.1 ≤ b then (min s.1 p.2, max s.2 p.2) else s
/-- the least range with the values at both ends -/
noncomputable def vs0 (xs : List (Int × Int)) (a b : Int) : Int × Int := (min (valV xs a).1 (valV xs b).1, max (valV xs a).2 (valV xs b).2)
noncomputable def valsV (xs : List (Int × Int)) (a b : Int) : Int × Int := xs.foldl (vsJ a b) (vs0 xs a b)
theorem vs_same {xs : List (Int × Int)} (ht : TabOk xs) (a b : Int) : xs.foldl (vsK a b) (vs0 xs a b) = valsV xs a b := by
  have key : ∀ (l : List (Int × Int)) (s : Int × Int), (∀ p ∈ l, p ∈ xs) → s.1 ≤ (vs0 xs a b).1 → (vs0 xs a b).2 ≤ s.2 → l.foldl (vsK a b) s = l.foldl (vsJ a b) s := by
    intro l
    induction l with
    | nil => intro s _ _ _; rfl
    | cons p l ih =>
      intro s hl h1 h2
      have hp := hl p (by simp)
      have e : vsK a b s p = vsJ a b s p := by
        unfold vsK vsJ
        have hrow := valV_row ht hp
        by_cases ha : p.1 = a
        · rw [ha] at hrow
          unfold vs0 at h1 h2
          rw [hrow] at h1 h2
          simp only at h1 h2
          rw [if_neg (by omega : ¬ (a < p.1 ∧ p.1 < b))]
          split
          · ext <;> simp only <;> omega
          · rfl
        · by_cases hb : p.1 = b
          · rw [hb] at hrow
            unfold vs0 at h1 h2
            rw [hrow] at h1 h2
            simp only at h1 h2
            rw [if_neg (by omega : ¬ (a < p.1 ∧ p.1 < b))]
            split
            · ext <;> simp only <;> omega
            · rfl
          · by_cases hc : a < p.1 ∧ p.1 < b
            · rw [if_pos hc, if_pos (by omega)]
            · rw [if_neg hc, if_neg (by omega)]
      rw [List.foldl_cons, List.foldl_cons, e]
      refine ih _ (fun q hq => hl q (by simp [hq])) ?_ ?_
      · unfold vsJ; split
        · simp only; omega
        · exact h1
      · unfold vsJ; split
        · simp only; omega
        · exact h2
  exact key xs _ (fun p hp => hp) (Int.le_refl _) (Int.le_refl _)
theorem rise_in {p q : Int × Int} (hw : p.1 < q.1) (hr : p.2 < q.2) (yl x : Int) : yl ≤ (segV p q x).1 ↔ -(-((yl - p.2) * (q.1 - p.1)) / (q.2 - p.2)) ≤ x - p.1 := by
  have h1 := Int.le_ediv_iff_mul_le (b := (q.2 - p.2) * (x - p.1)) (a := yl - p.2) (c := q.1 - p.1) (by omega)
  have h2 := Int.le_ediv_iff_mul_le (b := -((yl - p.2) * (q.1 - p.1))) (a := -(x - p.1)) (c := q.2 - p.2) (by omega)
  rw [Int.neg_mul, Int.mul_comm (x - p.1)] at h2
  unfold segV
  simp only
  generalize (q.2 - p.2) * (x - p.1) = Z at *
  generalize (yl - p.2) * (q.1 - p.1) = B at *
  omega
theorem rise_out {p q : Int × Int} (hw : p.1 < q.1) (hr : p.2 < q.2) (yh x : Int) : yh < (segV p q x).2 ↔ (yh - p.2) * (q.1 - p.1) / (q.2 - p.2) < x - p.1 := by
  have h1 := Int.ediv_lt_iff_lt_mul (a := -((q.2 - p.2) * (x - p.1))) (b := p.2 - yh) (c := q.1 - p.1) (by omega)
  have h2 := Int.ediv_lt_iff_lt_mul (a := (yh - p.2) * (q.1 - p.1)) (b := x - p.1) (c := q.2 - p.2) (by omega)
  rw [Int.mul_comm (x - p.1)] at h2
  have e : (p.2 - yh) * (q.1 - p.1) = -((yh - p.2) * (q.1 - p.1)) := by rw [← Int.neg_mul]; congr 1; omega
  rw [e] at h1
  unfold segV
  simp only
  generalize (q.2 - p.2) * (x - p.1) = Z at *
  generalize (yh - p.2) * (q.1 - p.1) = B at *
  omega
theorem fall_in {p q : Int × Int} (hw : p.1 < q.1) (hr : q.2 < p.2) (yh x : Int) : (segV p q x).2 ≤ yh ↔ -(-((p.2 - yh) * (q.1 - p.1)) / (p.2 - q.2)) ≤ x - p.1 := by
  have h1 := Int.le_ediv_iff_mul_le (b := -((q.2 - p.2) * (x - p.1))) (a := p.2 - yh) (c := q.1 - p.1) (by omega)
  have h2 := Int.le_ediv_iff_mul_le (b := -((p.2 - yh) * (q.1 - p.1))) (a := -(x - p.1)) (c := p.2 - q.2) (by omega)
  have e : (q.2 - p.2) * (x - p.1) = -((x - p.1) * (p.2 - q.2)) := by rw [← Int.mul_neg, Int.mul_comm]; congr 1; omega
  rw [Int.neg_mul] at h2
  unfold segV
  simp only
  rw [e] at h1 ⊢
  generalize (x - p.1) * (p.2 - q.2) = Z at *
  generalize (p.2 - yh) * (q.1 - p.1) = B at *
  omega
theorem fall_out {p q : Int × Int} (hw : p.1 < q.1) (hr : q.2 < p.2) (yl x : Int) : (segV p q x).1 < yl ↔ (p.2 - yl) * (q.1 - p.1) / (p.2 - q.2) < x - p.1 := by
  have h1 := Int.ediv_lt_iff_lt_mul (a := (q.2 - p.2) * (x - p.1)) (b := yl - p.2) (c := q.1 - p.1) (by omega)
  have h2 := Int.ediv_lt_iff_lt_mul (a := (p.2 - yl) * (q.1 - p.1)) (b := x - p.1) (c := p.2 - q.2) (by omega)
  have e : (q.2 - p.2) * (x - p.1) = -((x - p.1) * (p.2 - q.2)) := by rw [← Int.mul_neg, Int.mul_comm]; congr 1; omega
  have e2 : (yl - p.2) * (q.1 - p.1) = -((p.2 - yl) * (q.1 - p.1)) := by rw [← Int.neg_mul]; congr 1; omega
  unfold segV
  simp only
  rw [e2, e] at h1
  rw [e]
  generalize (x - p.1) * (p.2 - q.2) = Z at *
  generalize (p.2 - yl) * (q.1 - p.1) = B at *
  omega
theorem flat_val {p q : Int × Int} (hr : p.2 = q.2) (x : Int) : segV p q x = (p.2, p.2) := by
  unfold segV
  rw [hr]
  simp
/-- the first number from a to b that a test takes that goes one way; b + 1 if there is none -/
def firstIs (P : Int → Bool) (a b f : Int) : Prop := a ≤ f ∧ f ≤ b + 1 ∧ (∀ x, a ≤ x → x < f → P x = false) ∧ (f ≤ b → P f = true)
theorem firstIs_one {P : Int → Bool} {a b f g : Int} (hf : firstIs P a b f) (hg : firstIs P a b g) : f = g := by
  obtain ⟨f1, f2, f3, f4⟩ := hf
  obtain ⟨g1, g2, g3, g4⟩ := hg
  rcases Int.lt_trichotomy f g with h | h | h
  · have := g3 f f1 h
    rw [f4 (by omega)] at this
    cases this
  · exact h
  · have := f3 g g1 h
    rw [g4 (by omega)] at this
    cases this
/-- where a test stands at a bound: the first number is the bound, within a and b + 1 -/
theorem firstIs_bound {P : Int → Bool} {a b n : Int} (hab : a ≤ b + 1) (h : ∀ x, a ≤ x → x ≤ b → (P x = true ↔ n ≤ x)) : firstIs P a b (min (max a n) (b + 1)) := by
  refine ⟨by omega, by omega, fun x h1 h2 => ?_, fun h1 => (h _ (by omega) h1).2 (by omega)⟩
  rw [Bool.eq_false_iff]
  intro hx
  have := (h x h1 (by omega)).1 hx
  omega

open Go.RowKit Go.Lib Go.Shelf
set_option linter.unusedVariables false
set_option linter.unusedSimpArgs false
attribute [local go_sem ↓] Go.wp_at_zero Go.wp_at_succ

/-- what is looked for -/
def srP (yl yh : Int) (rises behind : Bool) (v : Int × Int) : Bool :=
  match rises, behind with
  | true, false => decide (yl ≤ v.1)
  | true, true => decide (yh < v.2)
  | false, false => decide (v.2 ≤ yh)
  | false, true => decide (v.1 < yl)

open Go.RowKit Go.Lib Go.Shelf
set_option linter.unusedVariables false
set_option linter.unusedSimpArgs false

/-- a range is added to a set behind all of its ranges -/
def extP (xs : List (Int × Int)) (a : Int × Int) : List (Int × Int) :=
  match xs.getLast? with
  | none => [a]
  | some p => if a.1 ≤ p.2 + 1 then xs.dropLast ++ [(p.1, a.2)] else xs ++ [a]

/-- what extend leaves -/
def ExtPost (w : World) (base : Nat) (v : Value) (ys : List (Int × Int)) (e : Ending) (w' : World) : Prop :=
  ∃ v', e = .returned v' ∧ w'.ownsRow base 24 2 v' ys.length (flat ys) ∧ w.grownBy w' v.ownBlock ∧ (v'.ownBlock = v.ownBlock ∨ ∃ g, v'.ownBlock = some g ∧ w.heap.size ≤ g)

theorem extend_any (xs : List (Int × Int)) (lo hi : Int) (v : Value) (base : Nat) (hp : ∀ p ∈ xs, -1000000000000000000 ≤ p.2 ∧ p.2 ≤ 1000000000000000000) (hn : xs.length ≤ 1000000) (w : World) (hbase : base ≤ w.heap.size)
    (hown : w.ownsRow base 24 2 v xs.length (flat xs)) :
    Calls Tryz.prog 136 #[v, .agg #[.int .i64 lo, .int .i64 hi]] w (ExtPost w base v (extP xs (lo, hi))) := by
  rcases List.eq_nil_or_concat xs with rfl | ⟨ys, p, rfl⟩
  · refine (extend_nil lo hi v base w hbase hown).mono ?_
    rintro e w' ⟨v', rfl, h1, h2, h3⟩
    exact ⟨v', rfl, h1, h2, h3⟩
  · rw [List.concat_eq_append] at *
    have hl : (ys ++ [p]).length = ys.length + 1 := by simp
    have hpp := hp p (by simp)
    rw [hl] at hown hn
    obtain ⟨g, cap, rfl, _, _⟩ := hown.form (by omega)
    by_cases hle : lo ≤ p.2 + 1
    · refine (extend_last ys p lo hi g cap base hle hpp.1 hpp.2 (by omega) w hbase hown).mono ?_
      rintro e w' ⟨rfl, h1, h2⟩
      have he : extP (ys ++ [p]) (lo, hi) = ys ++ [(p.1, hi)] := by simp [extP, hle]
      rw [he]
      exact ⟨_, rfl, by simpa using h1, h2, .inl rfl⟩
    · refine (extend_more ys p lo hi g cap base (by omega) hpp.1 hpp.2 (by omega) w hbase hown).mono ?_
      rintro e w' ⟨v', rfl, h1, h2, h3⟩
      have he : extP (ys ++ [p]) (lo, hi) = ys ++ [p] ++ [(lo, hi)] := by simp [extP, hle]
      rw [he]
      refine ⟨v', rfl, ?_, h2, h3⟩
      rw [flat_append _ [(lo, hi)], flat_one]
      simpa using h1

theorem extP_length (xs : List (Int × Int)) (a : Int × Int) : (extP xs a).length ≤ xs.length + 1 := by
  unfold extP
  split
  · simp
  · split
    · simp
      try omega
    · simp
theorem extP_bd {xs : List (Int × Int)} {a : Int × Int} (D : Int → Prop) (h : ∀ p ∈ xs, D p.2) (ha : D a.2) : ∀ p ∈ extP xs a, D p.2 := by
  unfold extP
  split
  · simpa using ha
  · split
    · intro p hp
      rcases List.mem_append.1 hp with hp | hp
      · exact h p (List.dropLast_subset _ hp)
      · simp at hp; subst hp; exact ha
    · intro p hp
      rcases List.mem_append.1 hp with hp | hp
      · exact h p hp
      · simp at hp; subst hp; exact ha
end Go.Proofs.YtgklpbgdimkhaaaGreat
