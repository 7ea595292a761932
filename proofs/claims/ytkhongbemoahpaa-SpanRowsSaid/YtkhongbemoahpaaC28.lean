/- Contracts: the value of a table at a place, in the reference. -/
import Derived.Test.YtkhongbemoahpaaC27
import Derived.Test.YtkhongbemoahpaaR1
namespace Go.Proofs.Ytkhongbemoahpaa
open Go.RowKit Go.Lib Go.Shelf
set_option linter.unusedVariables false
set_option linter.unusedSimpArgs false
attribute [local go_sem ↓] Go.wp_at_zero Go.wp_at_succ

/-- the stretch that At comes to -/
theorem seg_last {xs : List (Int × Int)} {x : Int} (ht : TabOk xs) (hc : covB xs x = true) : ∃ k p q, xs[k]? = some p ∧ xs[k + 1]? = some q ∧ p.1 ≤ x ∧ x ≤ q.1 ∧ (k + 2 = xs.length ∨ x < q.1) ∧ ∀ j r, j < k → xs[j + 1]? = some r → r.1 ≤ x := by
  obtain ⟨m, hm⟩ : ∃ m, xs.length = m + 1 := ⟨xs.length - 1, by have := ht.1; omega⟩
  have hm1 : 1 ≤ m := by have := ht.1; omega
  obtain ⟨p, hp⟩ : ∃ p, xs[0]? = some p := ⟨_, List.getElem?_eq_getElem (by omega)⟩
  obtain ⟨q, hq⟩ : ∃ q, xs[m]? = some q := ⟨_, List.getElem?_eq_getElem (by omega)⟩
  rw [covB_of x hm hp hq] at hc
  simp at hc
  have key : ∀ d k p, k + d = m → 1 ≤ d → xs[k]? = some p → p.1 ≤ x → (∀ j r, j < k → xs[j + 1]? = some r → r.1 ≤ x) → ∃ k p q, xs[k]? = some p ∧ xs[k + 1]? = some q ∧ p.1 ≤ x ∧ x ≤ q.1 ∧ (k + 2 = xs.length ∨ x < q.1) ∧ ∀ j r, j < k → xs[j + 1]? = some r → r.1 ≤ x := by
    intro d
    induction d with
    | zero => intro k p _ h; omega
    | succ d ih =>
      intro k p hk _ hp hpx hj
      obtain ⟨r, hr⟩ : ∃ r, xs[k + 1]? = some r := ⟨_, List.getElem?_eq_getElem (by omega)⟩
      by_cases hx : x < r.1
      · exact ⟨k, p, r, hp, hr, hpx, by omega, .inr hx, hj⟩
      · rcases Nat.eq_zero_or_pos d with h | h
        · subst h
          have e : r = q := by rw [show k + 1 = m from by omega, hq] at hr; injection hr with hr; exact hr.symm
          subst e
          exact ⟨k, p, r, hp, hr, hpx, hc.2, .inl (by omega), hj⟩
        · refine ih (k + 1) r (by omega) h hr (by omega) (fun j s hj' hs => ?_)
          by_cases e : j = k
          · subst e; rw [hr] at hs; injection hs with hs; subst hs; omega
          · exact hj j s (by omega) hs
  exact key m 0 p (by omega) hm1 hp hc.1 (fun j r h => by omega)

def AtPost (xs : List (Int × Int)) (x : Int) (w : World) (e : Ending) (w' : World) : Prop :=
  ∃ (k : Nat) (p q : Int × Int), xs[k]? = some p ∧ xs[k + 1]? = some q ∧ p.1 ≤ x ∧ x ≤ q.1 ∧ e = .returned (.tuple #[.int .i64 k, .int .i64 ((q.2 - p.2) * (x - p.1)), .int .i64 (q.1 - p.1)]) ∧ Below w.heap.size w w'
end Go.Proofs.Ytkhongbemoahpaa

