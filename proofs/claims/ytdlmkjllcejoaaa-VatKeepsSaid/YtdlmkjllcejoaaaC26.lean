/- Contracts: whether a table is valid; its value, with errors. -/
import Derived.Test.YtdlmkjllcejoaaaC25
import Derived.Test.YtdlmkjllcejoaaaT8
namespace Go.Proofs.Ytdlmkjllcejoaaa
open Go.RowKit Go.Lib Go.Shelf
set_option linter.unusedVariables false
set_option linter.unusedSimpArgs false
attribute [local go_sem ↓] Go.wp_at_zero Go.wp_at_succ

set_option maxHeartbeats 400000 in
theorem checkTable_bad (A : Option Addr) (n c : Nat) (h : n < 2 ∨ 60 < n) (w : World) :
    Calls Try.prog 104 #[.slice A n c] w fun e w' => e = .returned (.int .i64 2) ∧ Below w.heap.size w w' := by
  rcases (by omega : n < 2 ∨ ¬ n < 2 ∧ 60 < n) with h | ⟨h0, h⟩
  all_goals
    go_enter Try.func104, Try.ntmps104
    go_wp2_with fail
    go_ret
    exact ⟨rfl, Below.refl _ _⟩
theorem checkTable_any (v : Value) (xs : List (Int × Int)) (w : World) (hv : SetAt w.heap.size w v xs) :
    Calls Try.prog 104 #[v] w fun e w' => e = .returned (.int .i64 (tabE xs)) ∧ Below w.heap.size w w' := by
  obtain ⟨A, c, rfl, h⟩ := hv
  by_cases hl : xs.length < 2 ∨ 60 < xs.length
  · rw [tabE_short hl]
    exact checkTable_bad A _ c hl w
  · obtain ⟨g, off, rfl, hg, hr⟩ := h (by omega)
    exact checkTable_long g off xs c w hg hr (by omega) (by omega)
theorem tabOk_of {xs : List (Int × Int)} (h : tabE xs = 0) : TabOk xs := by
  have hl : ¬ (xs.length < 2 ∨ 60 < xs.length) := fun hl => by rw [tabE_short hl] at h; cases h
  have hr : rowsOk xs xs.length = true := by
    cases hc : rowsOk xs xs.length with
    | true => rfl
    | false => rw [tabE_no hc] at h; cases h
  have hk : ∀ k, k < xs.length → rowOk xs k = true := fun k hk => List.all_eq_true.1 hr k (by simpa using hk)
  have hstep : ∀ (i : Nat) (p q : Int × Int), xs[i]? = some p → xs[i + 1]? = some q → p.1 < q.1 := fun i p q hp hq => by
    have := hk (i + 1) (List.getElem?_eq_some_iff.1 hq).1
    rw [rowOk_succ hq hp] at this
    simp at this
    exact this.2
  refine ⟨by omega, by omega, fun p hp => ?_, ?_⟩
  · obtain ⟨k, hk2, e⟩ := List.mem_iff_getElem.1 hp
    have h1 : xs[k]? = some p := by rw [List.getElem?_eq_getElem hk2, e]
    have := hk k hk2
    rw [rowOk_of h1, Bool.and_eq_true] at this
    exact this.1
  · have key : ∀ (d i : Nat) (p q : Int × Int), xs[i]? = some p → xs[i + d + 1]? = some q → p.1 < q.1 := by
      intro d
      induction d with
      | zero => intro i p q hp hq; exact hstep i p q hp hq
      | succ d ih =>
        intro i p q hp hq
        obtain ⟨r, hr⟩ : ∃ r, xs[i + d + 1]? = some r := ⟨_, List.getElem?_eq_getElem (by have := (List.getElem?_eq_some_iff.1 hq).1; omega)⟩
        have h1 := ih i p r hp hr
        have h2 := hstep (i + d + 1) r q hr hq
        omega
    intro i j p q hij hp hq
    exact key (j - i - 1) i p q hp (by rw [show i + (j - i - 1) + 1 = j from by omega]; exact hq)

/-- the error of Value, and what it returns -/
def vaE (xs : List (Int × Int)) (x : Int) : Int := if tabE xs = 0 then (if covB xs x then 0 else 3) else tabE xs
noncomputable def vaR (xs : List (Int × Int)) (x : Int) : Int × Int := if vaE xs x = 0 then valV xs x else (0, 0)
end Go.Proofs.Ytdlmkjllcejoaaa

