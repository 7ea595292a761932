/- Contracts: the ranges of differences, products and quotients. -/
import Derived.Test.YtdlmkjllcejoaaaD65
import Derived.Test.YtdlmkjllcejoaaaC6
import Derived.Test.YtdlmkjllcejoaaaT1
namespace Go.Proofs.Ytdlmkjllcejoaaa
open Go.RowKit Go.Lib Go.Shelf
set_option linter.unusedVariables false
set_option linter.unusedSimpArgs false
attribute [local go_sem ↓] Go.wp_at_zero Go.wp_at_succ

theorem keep4 {w W W' : World} {x0 x1 y0 y1 : Option Value} (hb : Below W.heap.size W W') (h : W.cell? ⟨w.heap.size, 0, none⟩ = x0 ∧ W.cell? ⟨w.heap.size, 1, none⟩ = x1 ∧ W.cell? ⟨w.heap.size + 1, 0, none⟩ = y0 ∧ W.cell? ⟨w.heap.size + 1, 1, none⟩ = y1 ∧ Kp (w.heap.size + 1 + 1) w W) :
    W'.cell? ⟨w.heap.size, 0, none⟩ = x0 ∧ W'.cell? ⟨w.heap.size, 1, none⟩ = x1 ∧ W'.cell? ⟨w.heap.size + 1, 0, none⟩ = y0 ∧ W'.cell? ⟨w.heap.size + 1, 1, none⟩ = y1 ∧ Kp (w.heap.size + 1 + 1) w W' := by
  obtain ⟨h1, h2, h3, h4, h5⟩ := h
  have := h5.2.1
  exact ⟨cell_next hb (by omega) h1, cell_next hb (by omega) h2, cell_next hb (by omega) h3, cell_next hb (by omega) h4, h5.next h5.1.size hb⟩
theorem keep4_set {w W : World} {x0 x1 y0 y1 : Option Value} {u v : Value} (hw : w.heap.size ≤ w.heap.size + 1 + 1) (h : W.cell? ⟨w.heap.size, 0, none⟩ = x0 ∧ W.cell? ⟨w.heap.size, 1, none⟩ = x1 ∧ W.cell? ⟨w.heap.size + 1, 0, none⟩ = y0 ∧ W.cell? ⟨w.heap.size + 1, 1, none⟩ = y1 ∧ Kp (w.heap.size + 1 + 1) w W) :
    ((W.setCell ⟨w.heap.size + 1 + 1, 0, none⟩ u).setCell ⟨w.heap.size + 1 + 1, 1, none⟩ v).cell? ⟨w.heap.size, 0, none⟩ = x0 ∧ ((W.setCell ⟨w.heap.size + 1 + 1, 0, none⟩ u).setCell ⟨w.heap.size + 1 + 1, 1, none⟩ v).cell? ⟨w.heap.size, 1, none⟩ = x1 ∧
    ((W.setCell ⟨w.heap.size + 1 + 1, 0, none⟩ u).setCell ⟨w.heap.size + 1 + 1, 1, none⟩ v).cell? ⟨w.heap.size + 1, 0, none⟩ = y0 ∧ ((W.setCell ⟨w.heap.size + 1 + 1, 0, none⟩ u).setCell ⟨w.heap.size + 1 + 1, 1, none⟩ v).cell? ⟨w.heap.size + 1, 1, none⟩ = y1 ∧ Kp (w.heap.size + 1 + 1) w ((W.setCell ⟨w.heap.size + 1 + 1, 0, none⟩ u).setCell ⟨w.heap.size + 1 + 1, 1, none⟩ v) := by
  obtain ⟨h1, h2, h3, h4, h5⟩ := h
  refine ⟨?_, ?_, ?_, ?_, h5.set hw u v⟩
  · rw [World.cell?_setCell_other _ _ _ _ (by intro e; injection e; omega), World.cell?_setCell_other _ _ _ _ (by intro e; injection e; omega)]; exact h1
  · rw [World.cell?_setCell_other _ _ _ _ (by intro e; injection e; omega), World.cell?_setCell_other _ _ _ _ (by intro e; injection e; omega)]; exact h2
  · rw [World.cell?_setCell_other _ _ _ _ (by intro e; injection e; omega), World.cell?_setCell_other _ _ _ _ (by intro e; injection e; omega)]; exact h3
  · rw [World.cell?_setCell_other _ _ _ _ (by intro e; injection e; omega), World.cell?_setCell_other _ _ _ _ (by intro e; injection e; omega)]; exact h4
theorem row6 (W : World) (T : TypeId) (p q r : Int × Int) : RRd (W.alloc (.cells #[.int .i64 p.1, .int .i64 p.2, .int .i64 q.1, .int .i64 q.2, .int .i64 r.1, .int .i64 r.2] T)) W.heap.size 0 [p, q, r] := by
  intro k z hz
  rcases k with _ | _ | _ | k
  · simp at hz; subst hz; exact ⟨cell_new _ _ _ _, cell_new _ _ _ _⟩
  · simp at hz; subst hz; exact ⟨cell_new _ _ _ _, cell_new _ _ _ _⟩
  · simp at hz; subst hz; exact ⟨cell_new _ _ _ _, cell_new _ _ _ _⟩
  · simp at hz

/-- what a quotient is around -/
def arP (a b c : Int) : Int × Int := (qLo a b c, qHi a b c)

/-- a function of two numbers at one pair of them -/
def At2 (F : Nat) (x y : Int) (p : Int × Int) : Prop := ∀ w : World, Calls Try.prog F #[.int .i64 x, .int .i64 y] w fun e w' => e = .returned (.agg #[.int .i64 p.1, .int .i64 p.2]) ∧ Below w.heap.size w w'

end Go.Proofs.Ytdlmkjllcejoaaa

