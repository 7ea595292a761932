/- Contracts: a range is added to a set, whichever way. -/
import Derived.Test.YtkhongbemoahpaaT3
namespace Go.Proofs.Ytkhongbemoahpaa
open Go.RowKit Go.Lib Go.Shelf
set_option linter.unusedVariables false
set_option linter.unusedSimpArgs false

/-- a range is added to a set behind all of its ranges -/
def extP (xs : List (Int × Int)) (a : Int × Int) : List (Int × Int) :=
  match xs.getLast? with
  | none => [a]
  | some p => if a.1 ≤ p.2 + 1 then xs.dropLast ++ [(p.1, a.2)] else xs ++ [a]

/-- what extend leaves -/
def ExtPost (w : World) (base : Nat) (v : Value) (ys : List (Int × Int)) (e : Ending) (w' : World) : Prop :=
  ∃ v', e = .returned v' ∧ w'.ownsRow base 32 2 v' ys.length (flat ys) ∧ w.grownBy w' v.ownBlock ∧ (v'.ownBlock = v.ownBlock ∨ ∃ g, v'.ownBlock = some g ∧ w.heap.size ≤ g)

theorem extend_any (xs : List (Int × Int)) (lo hi : Int) (v : Value) (base : Nat) (hp : ∀ p ∈ xs, -1000000000000000000 ≤ p.2 ∧ p.2 ≤ 1000000000000000000) (hn : xs.length ≤ 1000000) (w : World) (hbase : base ≤ w.heap.size)
    (hown : w.ownsRow base 32 2 v xs.length (flat xs)) :
    Calls Try.prog 26 #[v, .agg #[.int .i64 lo, .int .i64 hi]] w (ExtPost w base v (extP xs (lo, hi))) := by
  rcases List.eq_nil_or_concat xs with rfl | ⟨ys, p, rfl⟩
  · refine (extend_nil lo hi v base w hbase hown).mono ?_
    rintro e w' ⟨v', rfl, h1, h2, h3⟩
    exact ⟨v', rfl, h1, h2, h3⟩
  · rw [List.concat_eq_append] at *
    have hl : (ys ++ [p]).length = ys.length + 1 := by simp
    have hpp := hp p (by simp)
    rw [hl] at hown hn
    obtain ⟨g, cap, rfl, _, _⟩ := hown.form (by omega)
    by_cases hle : lo ≤ p.2 + 1
    · refine (extend_last ys p lo hi g cap base hle hpp.1 hpp.2 (by omega) w hbase hown).mono ?_
      rintro e w' ⟨rfl, h1, h2⟩
      have he : extP (ys ++ [p]) (lo, hi) = ys ++ [(p.1, hi)] := by simp [extP, hle]
      rw [he]
      exact ⟨_, rfl, by simpa using h1, h2, .inl rfl⟩
    · refine (extend_more ys p lo hi g cap base (by omega) hpp.1 hpp.2 (by omega) w hbase hown).mono ?_
      rintro e w' ⟨v', rfl, h1, h2, h3⟩
      have he : extP (ys ++ [p]) (lo, hi) = ys ++ [p] ++ [(lo, hi)] := by simp [extP, hle]
      rw [he]
      refine ⟨v', rfl, ?_, h2, h3⟩
      rw [flat_append _ [(lo, hi)], flat_one]
      simpa using h1

theorem extP_length (xs : List (Int × Int)) (a : Int × Int) : (extP xs a).length ≤ xs.length + 1 := by
  unfold extP
  split
  · simp
  · split
    · simp
      try omega
    · simp
theorem extP_bd {xs : List (Int × Int)} {a : Int × Int} (D : Int → Prop) (h : ∀ p ∈ xs, D p.2) (ha : D a.2) : ∀ p ∈ extP xs a, D p.2 := by
  unfold extP
  split
  · simpa using ha
  · split
    · intro p hp
      rcases List.mem_append.1 hp with hp | hp
      · exact h p (List.dropLast_subset _ hp)
      · simp at hp; subst hp; exact ha
    · intro p hp
      rcases List.mem_append.1 hp with hp | hp
      · exact h p hp
      · simp at hp; subst hp; exact ha
end Go.Proofs.Ytkhongbemoahpaa

