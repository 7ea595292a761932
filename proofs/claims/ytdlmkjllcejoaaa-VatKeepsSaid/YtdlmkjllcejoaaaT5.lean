/- Contracts: where the value lies in a range. -/
import Derived.Test.YtdlmkjllcejoaaaT1
import Derived.Test.YtdlmkjllcejoaaaT4
namespace Go.Proofs.Ytdlmkjllcejoaaa
open Go.RowKit Go.Lib Go.Shelf
set_option linter.unusedVariables false
set_option linter.unusedSimpArgs false
attribute [local go_sem ↓] Go.wp_at_zero Go.wp_at_succ

/-- the set of the places behind the first k stretches -/
def whereAt (PL : Nat → (Int × Int) × Bool) : Nat → List (Int × Int)
  | 0 => []
  | k + 1 => if (PL k).2 then extP (whereAt PL k) (PL k).1 else whereAt PL k
theorem whereAt_length (PL : Nat → (Int × Int) × Bool) (k : Nat) : (whereAt PL k).length ≤ k := by
  induction k with
  | zero => simp [whereAt]
  | succ k ih =>
    unfold whereAt
    split
    · have := extP_length (whereAt PL k) (PL k).1; omega
    · omega

theorem below_realloc {B : Nat} {a w : World} {o p : Obj} (h : Below B a (w.alloc o)) (hB : B ≤ w.heap.size) : Below B a (w.alloc p) :=
  ⟨h.os, h.tape, h.output, by have := h.size; simpa using this, fun k hk => (Below.heap_alloc w p k (by omega)).trans ((Below.heap_alloc w o k (by omega)).symm.trans (h.block k hk))⟩

theorem grown_cell' {w w' : World} {row : Option Nat} {b o : Nat} {v : Option Value} (h : w.grownBy w' row) (hb : b < w.heap.size) (hne : ∀ r, row = some r → b ≠ r) (hc : w.cell? ⟨b, o, none⟩ = v) : w'.cell? ⟨b, o, none⟩ = v :=
  (World.cell?_of_block (h.block b hb (fun e => hne b e.symm rfl))).trans hc
theorem own_below {w w' : World} {base : Nat} {e : TypeId} {size : Nat} {v : Value} {n : Nat} {xs : List Value} (h : w.ownsRow base e size v n xs) (hb : Below w.heap.size w w') : w'.ownsRow base e size v n xs :=
  h.kept (only_of_below' (row := none) hb) (by cases hv : v.ownBlock <;> simp)

/-- what Where leaves -/
def WherePost (w : World) (ys : List (Int × Int)) (e : Ending) (w' : World) : Prop :=
  ∃ v, e = .returned (.tuple #[v, .int .i64 0]) ∧ w'.ownsRow (w.heap.size + 1) 24 2 v ys.length (flat ys) ∧ Below w.heap.size w w'

end Go.Proofs.Ytdlmkjllcejoaaa

