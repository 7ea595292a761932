/- Contracts: the concentration of sap. -/
import Derived.Test.YtkhongbemoahpaaC10
import Derived.Test.YtkhongbemoahpaaT1
namespace Go.Proofs.Ytkhongbemoahpaa
open Go.RowKit Go.Lib Go.Shelf
set_option linter.unusedVariables false
set_option linter.unusedSimpArgs false
attribute [local go_sem ↓] Go.wp_at_zero Go.wp_at_succ

theorem keep3 {w W W' : World} {b B : Nat} {x y : Option Value} (hb : Below W.heap.size W W') (h : W.cell? ⟨b, 0, none⟩ = x ∧ W.cell? ⟨b, 1, none⟩ = y ∧ b < W.heap.size ∧ Kp B w W) :
    W'.cell? ⟨b, 0, none⟩ = x ∧ W'.cell? ⟨b, 1, none⟩ = y ∧ b < W'.heap.size ∧ Kp B w W' := by
  obtain ⟨h1, h2, h4, h3⟩ := h
  exact ⟨cell_next hb h4 h1, cell_next hb h4 h2, Nat.lt_of_lt_of_le h4 hb.size, h3.next h3.1.size hb⟩
theorem keep3_set {w W : World} {b B : Nat} {x y : Option Value} {u v : Value} (hB : b ≠ B) (hw : w.heap.size ≤ B) (h : W.cell? ⟨b, 0, none⟩ = x ∧ W.cell? ⟨b, 1, none⟩ = y ∧ b < W.heap.size ∧ Kp B w W) :
    ((W.setCell ⟨B, 0, none⟩ u).setCell ⟨B, 1, none⟩ v).cell? ⟨b, 0, none⟩ = x ∧ ((W.setCell ⟨B, 0, none⟩ u).setCell ⟨B, 1, none⟩ v).cell? ⟨b, 1, none⟩ = y ∧ b < ((W.setCell ⟨B, 0, none⟩ u).setCell ⟨B, 1, none⟩ v).heap.size ∧ Kp B w ((W.setCell ⟨B, 0, none⟩ u).setCell ⟨B, 1, none⟩ v) := by
  obtain ⟨h1, h2, h4, h3⟩ := h
  refine ⟨?_, ?_, by simpa using h4, h3.set hw u v⟩
  · rw [World.cell?_setCell_other _ _ _ _ (by intro e; injection e; omega), World.cell?_setCell_other _ _ _ _ (by intro e; injection e; omega)]; exact h1
  · rw [World.cell?_setCell_other _ _ _ _ (by intro e; injection e; omega), World.cell?_setCell_other _ _ _ _ (by intro e; injection e; omega)]; exact h2

/-- what Brix returns -/
def brE (a s : Int) : Int := if spB a s then (if a + s = 0 then 7 else 0) else 2
def brL (a s : Int) : Int := if brE a s = 0 then qLo s 10000 (a + s) else 0
def brH (a s : Int) : Int := if brE a s = 0 then qHi s 10000 (a + s) else 0
theorem brE_ok {a s : Int} (h : brE a s = 0) : spB a s = true ∧ a + s ≠ 0 := by
  unfold brE at h
  split at h
  · split at h
    · cases h
    · exact ⟨by assumption, by assumption⟩
  · cases h

end Go.Proofs.Ytkhongbemoahpaa

