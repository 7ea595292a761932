/- Contracts: a copy of a list of ranges. -/
import Derived.Test.YtdlmkjllcejoaaaRI
import Derived.Test.YtdlmkjllcejoaaaT3
import Derived.Laws.AppendOwnNone
namespace Go.Proofs.Ytdlmkjllcejoaaa
open Go.RowKit Go.Lib Go.Shelf
set_option linter.unusedVariables false
set_option linter.unusedSimpArgs false
attribute [local go_sem ↓] Go.wp_at_zero Go.wp_at_succ

theorem rrd_flat {w : World} {g : Nat} : ∀ (xs : List (Int × Int)) (off : Nat), RRd w g off xs → ∀ j u, (flat xs)[j]? = some u → w.cell? ⟨g, off + j, none⟩ = some u := by
  intro xs
  induction xs with
  | nil => intro off _ j u h; simp [flat] at h
  | cons p xs ih =>
    intro off hr j u h
    have e : flat (p :: xs) = .int .i64 p.1 :: .int .i64 p.2 :: flat xs := rfl
    rw [e] at h
    obtain ⟨h0, h1⟩ := hr 0 p rfl
    rcases j with _ | _ | j
    · simp at h; subst h; simpa using h0
    · simp at h; subst h; simpa using h1
    · have := ih (off + 2) hr.tail j u (by simpa using h)
      rw [show off + (j + 1 + 1) = off + 2 + j from by omega]
      exact this
theorem flat_rrd {w : World} {g : Nat} : ∀ (xs : List (Int × Int)) (off : Nat), (∀ j u, (flat xs)[j]? = some u → w.cell? ⟨g, off + j, none⟩ = some u) → RRd w g off xs := by
  intro xs off h k p hp
  have key : ∀ (ys : List (Int × Int)) (k : Nat) (p : Int × Int), ys[k]? = some p → (flat ys)[2 * k]? = some (.int .i64 p.1) ∧ (flat ys)[2 * k + 1]? = some (.int .i64 p.2) := by
    intro ys
    induction ys with
    | nil => intro k p h; simp at h
    | cons q ys ih =>
      intro k p h
      have e : flat (q :: ys) = .int .i64 q.1 :: .int .i64 q.2 :: flat ys := rfl
      rw [e]
      rcases k with _ | k
      · simp at h; subst h; exact ⟨rfl, rfl⟩
      · obtain ⟨h1, h2⟩ := ih k p (by simpa using h)
        rw [show 2 * (k + 1) = 2 * k + 1 + 1 from by omega]
        exact ⟨by simpa using h1, by simpa using h2⟩
  obtain ⟨h1, h2⟩ := key xs k p hp
  have a := h _ _ h1
  have b := h _ _ h2
  first
    | exact ⟨a, b⟩
    | (constructor
       · simpa [Nat.mul_comm] using a
       · simpa [Nat.mul_comm, Nat.add_assoc] using b)

theorem own_row (xs : List (Int × Int)) (n : Nat) (hn : xs.length = n) (v : Value) (w : World) {base : Nat} (h : w.ownsRow base 24 2 v n (flat xs)) : RowAt w.heap.size w v xs := by
  subst hn
  have hc := h
  obtain ⟨_, ⟨rfl, h0⟩ | ⟨g, cap, cur, rfl, _, hh, hnc, _, _, _⟩⟩ := h
  · have : xs = [] := List.eq_nil_of_length_eq_zero h0
    subst this
    exact ⟨none, 0, rfl, Nat.le_refl _, fun h => by simp at h⟩
  · refine ⟨_, cap, rfl, hnc, fun _ => ⟨g, 0, rfl, ?_, flat_rrd xs 0 fun j u hj => ?_⟩⟩
    · rcases Nat.lt_or_ge g w.heap.size with h | h
      · exact h
      · rw [Array.getElem?_eq_none h] at hh; cases hh
    · have := hc.cells (g := g) rfl j u hj
      simpa [Addr.add_lit] using this
/-- a list argument: nil, or a row below the world's end -/
def ArgAt (w : World) (v : Value) (xs : List (Int × Int)) : Prop :=
  ((∃ A c, v = .slice A 0 c) ∧ xs = []) ∨ ∃ g off c, v = .slice (some ⟨g, off, none⟩) xs.length c ∧ xs.length ≤ c ∧ g < w.heap.size ∧ RRd w g off xs
theorem ArgAt.row {w : World} {v : Value} {xs : List (Int × Int)} (h : ArgAt w v xs) : RowAt w.heap.size w v xs := by
  rcases h with ⟨⟨A, c, rfl⟩, rfl⟩ | ⟨g, off, c, rfl, hc, hg, hr⟩
  · exact ⟨A, c, rfl, Nat.zero_le _, fun h => by simp at h⟩
  · exact ⟨_, c, rfl, hc, fun _ => ⟨g, off, rfl, hg, hr⟩⟩

end Go.Proofs.Ytdlmkjllcejoaaa

