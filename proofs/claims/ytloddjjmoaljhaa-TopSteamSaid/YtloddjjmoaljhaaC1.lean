/- Contracts of the smallest functions of package span: whether a range is valid, the size of a number, the product of two words, and what fits. -/
import Derived.Test.YtloddjjmoaljhaaProg
import Derived.WalkKit
import Derived.WalkSpells
import Derived.WalkLawsBesides
import Derived.BigQuiet
import Derived.Deep.QuietTactic
import Derived.Lib.Mul64
import Derived.Laws.Bits64b
import Derived.Lib.Hide
import Derived.Deep.Draws
namespace Go.Proofs.Ytloddjjmoaljhaa
open Go.RowKit Go.Lib
set_option linter.unusedVariables false
set_option linter.unusedSimpArgs false

/-- whether a range is valid -/
def vrB (lo hi : Int) : Bool := decide (-1000000000000000 ≤ lo) && decide (lo ≤ hi) && decide (hi ≤ 1000000000000000)
/-- what fits -/
def fitL (lo hi : Int) : Int := if lo < -1000000000000000 ∨ 1000000000000000 < hi then 0 else lo
def fitH (lo hi : Int) : Int := if lo < -1000000000000000 ∨ 1000000000000000 < hi then 0 else hi
def fitE (lo hi : Int) : Int := if lo < -1000000000000000 ∨ 1000000000000000 < hi then 10 else 0

theorem fit_no (lo hi : Int) (h : lo < -1000000000000000 ∨ 1000000000000000 < hi) : fitL lo hi = 0 ∧ fitH lo hi = 0 ∧ fitE lo hi = 10 := by simp [fitL, fitH, fitE, h]
theorem fit_yes (lo hi : Int) (h1 : ¬ lo < -1000000000000000) (h2 : ¬ 1000000000000000 < hi) : fitL lo hi = lo ∧ fitH lo hi = hi ∧ fitE lo hi = 0 := by simp [fitL, fitH, fitE, h1, h2]
theorem below_drewN {B : Nat} {a w : World} (h : Below B a w) (n : Nat) : Below B a (w.drewN n) := ⟨h.os, h.tape, h.output, h.size, h.block⟩
theorem bcell {W w1 : World} (hb : Below W.heap.size W w1) : (∀ b o, b < W.heap.size → w1.cell? ⟨b, o, none⟩ = W.cell? ⟨b, o, none⟩) ∧ (∀ b o, b < W.heap.size → w1.frozen? ⟨b, o, none⟩ = W.frozen? ⟨b, o, none⟩) :=
  ⟨fun b o h => hb.cell (p := ⟨b, o, none⟩) h, fun b o h => hb.frozen (p := ⟨b, o, none⟩) h⟩
theorem cell_next {w w1 : World} {B b o : Nat} {v : Option Value} (hb : Below B w w1) (hB : b < B) (h : w.cell? ⟨b, o, none⟩ = v) : w1.cell? ⟨b, o, none⟩ = v := (hb.cell (p := ⟨b, o, none⟩) hB).trans h
theorem frozen_next {w w1 : World} {B b o : Nat} {v : Bool} (hb : Below B w w1) (hB : b < B) (h : w.frozen? ⟨b, o, none⟩ = v) : w1.frozen? ⟨b, o, none⟩ = v := (hb.frozen (p := ⟨b, o, none⟩) hB).trans h
theorem below1 {w w1 : World} {o : Obj} (h : Below (w.alloc o).heap.size (w.alloc o) w1) : Below w.heap.size w w1 := ((Below.refl _ _).alloc (Nat.le_refl _) _).trans (h.mono (by simp))
theorem below2 {w w1 : World} {o p : Obj} (h : Below ((w.alloc o).alloc p).heap.size ((w.alloc o).alloc p) w1) : Below w.heap.size w w1 := below1 (below1 h)
theorem below3 {w w1 : World} {o p q : Obj} (h : Below (((w.alloc o).alloc p).alloc q).heap.size (((w.alloc o).alloc p).alloc q) w1) : Below w.heap.size w w1 := below1 (below2 h)
theorem below4 {w w1 : World} {o p q r : Obj} (h : Below ((((w.alloc o).alloc p).alloc q).alloc r).heap.size ((((w.alloc o).alloc p).alloc q).alloc r) w1) : Below w.heap.size w w1 := below1 (below3 h)
theorem ret_int {k : IntKind} {a b : Int} (h : a = b) : Ending.returned (.int k a) = .returned (.int k b) := by rw [h]

set_option maxHeartbeats 400000 in
theorem validRange_any (lo hi : Int) (w : World) :
    Calls Try.prog 68 #[.agg #[.int .i64 lo, .int .i64 hi]] w fun e w' => e = .returned (.bool (vrB lo hi)) ∧ Below w.heap.size w w' := by
  by_cases h1 : -1000000000000000 ≤ lo <;> by_cases h2 : lo ≤ hi <;> by_cases h3 : hi ≤ 1000000000000000
  all_goals try (exfalso; omega)
  all_goals
    go_enter Try.func68, Try.ntmps68
    go_wp2
    go_ret
    exact ⟨by simp [vrB, *], (Below.refl _ _).alloc (Nat.le_refl _) _⟩

set_option maxHeartbeats 400000 in
theorem size_any (n : Int) (h1 : -9223372036854775808 ≤ n) (h2 : n ≤ 9223372036854775807) (w : World) :
    Calls Try.prog 65 #[.int .i64 n] w fun e w' => e = .returned (.int .u64 ((n.natAbs : Nat) : Int)) ∧ w = w' := by
  by_cases h : n < 0
  all_goals
    go_enter Try.func65, Try.ntmps65
    go_wp2
    go_ret
    refine ⟨ret_int ?_, rfl⟩
    try simp only [IntKind.wrap_u64]
    omega
end Go.Proofs.Ytloddjjmoaljhaa

