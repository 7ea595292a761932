/- Contracts: the value of a table in the reference, rounded. -/
import Derived.Test.YtkhongbemoahpaaC28
namespace Go.Proofs.Ytkhongbemoahpaa
open Go.RowKit Go.Lib Go.Shelf
set_option linter.unusedVariables false
set_option linter.unusedSimpArgs false
attribute [local go_sem ↓] Go.wp_at_zero Go.wp_at_succ

theorem keepT {w W W' : World} {g o : Nat} {x : Option Value} (hg : g < w.heap.size) (hb : Below W.heap.size W W') (h : W.cell? ⟨g, o, none⟩ = x ∧ Kp w.heap.size w W) : W'.cell? ⟨g, o, none⟩ = x ∧ Kp w.heap.size w W' :=
  ⟨cell_next hb (Nat.lt_of_lt_of_le hg h.2.1.size) h.1, h.2.next h.2.1.size hb⟩
theorem keepT_set {w W : World} {g o : Nat} {x : Option Value} {u v : Value} (hg : g < w.heap.size) (h : W.cell? ⟨g, o, none⟩ = x ∧ Kp w.heap.size w W) :
    ((W.setCell ⟨w.heap.size, 0, none⟩ u).setCell ⟨w.heap.size, 1, none⟩ v).cell? ⟨g, o, none⟩ = x ∧ Kp w.heap.size w ((W.setCell ⟨w.heap.size, 0, none⟩ u).setCell ⟨w.heap.size, 1, none⟩ v) := by
  have hne : g ≠ w.heap.size := by omega
  refine ⟨?_, h.2.set (Nat.le_refl _) u v⟩
  rw [World.cell?_setCell_other _ _ _ _ (by intro e; injection e; omega), World.cell?_setCell_other _ _ _ _ (by intro e; injection e; omega)]; exact h.1
end Go.Proofs.Ytkhongbemoahpaa

