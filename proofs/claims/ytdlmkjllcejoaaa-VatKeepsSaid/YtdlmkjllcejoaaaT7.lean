/- Contracts: whether a number is in a set. -/
import Derived.Test.YtdlmkjllcejoaaaT6
namespace Go.Proofs.Ytdlmkjllcejoaaa
open Go.RowKit Go.Lib Go.Shelf
set_option linter.unusedVariables false
set_option linter.unusedSimpArgs false
attribute [local go_sem ↓] Go.wp_at_zero Go.wp_at_succ

/-- a set: each range is valid, and stands behind those before it -/
structure IsSet (xs : List (Int × Int)) : Prop where
  valid : ∀ p ∈ xs, -1000000000000000 ≤ p.1 ∧ p.1 ≤ p.2 ∧ p.2 ≤ 1000000000000000
  apart : ∀ (a b : Nat) (p q : Int × Int), a < b → xs[a]? = some p → xs[b]? = some q → p.2 + 1 < q.1
theorem rngsOk_step {xs : List (Int × Int)} {n j : Nat} {p q : Int × Int} (h : rngsOk xs n = true) (hj : j + 1 < n) (hp : xs[j]? = some p) (hq : xs[j + 1]? = some q) : p.2 + 1 < q.1 := by
  have := List.all_eq_true.1 h (j + 1) (by simpa using hj)
  rw [rngOk_succ hq hp] at this
  simpa using (Bool.and_eq_true_iff.1 this).2
theorem isSet_of {xs : List (Int × Int)} (h : rngsOk xs xs.length = true) : IsSet xs := by
  have hv : ∀ p ∈ xs, -1000000000000000 ≤ p.1 ∧ p.1 ≤ p.2 ∧ p.2 ≤ 1000000000000000 := fun p hp => by
    obtain ⟨k, hk⟩ := List.getElem?_of_mem hp
    have hl : k < xs.length := by
      rcases Nat.lt_or_ge k xs.length with h1 | h1
      · exact h1
      · rw [List.getElem?_eq_none h1] at hk; cases hk
    exact vrB_of (rngsOk_at h hl hk)
  refine ⟨hv, fun a b => ?_⟩
  induction b with
  | zero => intro p q hab; omega
  | succ b ih =>
    intro p q hab hp hq
    have hl : b + 1 < xs.length := by
      rcases Nat.lt_or_ge (b + 1) xs.length with h1 | h1
      · exact h1
      · rw [List.getElem?_eq_none h1] at hq; cases hq
    obtain ⟨r, hr⟩ : ∃ r, xs[b]? = some r := ⟨_, List.getElem?_eq_getElem (by omega)⟩
    have h1 := rngsOk_step h hl hr hq
    rcases Nat.lt_or_ge a b with h2 | h2
    · have h3 := ih p r h2 hp hr
      have h4 := hv r (List.mem_of_getElem? hr)
      omega
    · obtain rfl : a = b := by omega
      rw [hr] at hp
      cases hp
      exact h1

/-- whether a number is in a set -/
def memB (xs : List (Int × Int)) (x : Int) : Bool := xs.any fun p => decide (p.1 ≤ x) && decide (x ≤ p.2)
theorem memB_true {xs : List (Int × Int)} {x : Int} {i : Nat} {p : Int × Int} (hp : xs[i]? = some p) (h1 : p.1 ≤ x) (h2 : x ≤ p.2) : memB xs x = true :=
  List.any_eq_true.2 ⟨p, List.mem_of_getElem? hp, by simp [h1, h2]⟩
theorem memB_false {xs : List (Int × Int)} {x : Int} (hs : IsSet xs) (i : Nat) (hlo : ∀ k p, k < i → xs[k]? = some p → p.2 < x) (hhi : ∀ p, xs[i]? = some p → x < p.1) : memB xs x = false := by
  rw [Bool.eq_false_iff]
  intro h
  obtain ⟨p, hp, hx⟩ := List.any_eq_true.1 h
  obtain ⟨k, hk⟩ := List.getElem?_of_mem hp
  simp at hx
  rcases Nat.lt_or_ge k i with h1 | h1
  · have := hlo k p h1 hk; omega
  · rcases Nat.lt_or_ge i k with h2 | h2
    · obtain ⟨q, hq⟩ : ∃ q, xs[i]? = some q := ⟨_, List.getElem?_eq_getElem (by
        rcases Nat.lt_or_ge k xs.length with h3 | h3
        · omega
        · rw [List.getElem?_eq_none h3] at hk; cases hk)⟩
      have h3 := hs.apart i k q p h2 hq hk
      have h4 := hhi q hq
      have h5 := hs.valid q (List.mem_of_getElem? hq)
      omega
    · obtain rfl : k = i := by omega
      have := hhi p hk
      omega

def cmpV (p : Int × Int) (x : Int) : Int := if p.2 < x then -1 else if x < p.1 then 1 else 0
theorem cmpV_neg (p : Int × Int) (x : Int) : cmpV p x < 0 ↔ p.2 < x := by unfold cmpV; split <;> (try split) <;> omega
theorem cmpV_zero (p : Int × Int) (x : Int) (h : ¬ p.2 < x) : cmpV p x = 0 ↔ p.1 ≤ x := by unfold cmpV; rw [if_neg h]; split <;> omega

/-- what BinarySearchFunc leaves -/
def BsPost (w : World) (r : Bool) (e : Ending) (w' : World) : Prop := ∃ i : Int, e = .returned (.tuple #[.int .i64 i, .bool r]) ∧ Below w.heap.size w w'

end Go.Proofs.Ytdlmkjllcejoaaa

