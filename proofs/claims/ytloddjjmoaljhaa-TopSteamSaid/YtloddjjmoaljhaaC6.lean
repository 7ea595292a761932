/- Contracts: a range times a fraction. -/
import Derived.Test.YtloddjjmoaljhaaC5
namespace Go.Proofs.Ytloddjjmoaljhaa
open Go.RowKit Go.Lib Go.Shelf
set_option linter.unusedVariables false
set_option linter.unusedSimpArgs false
attribute [local go_sem ↓] Go.wp_at_zero Go.wp_at_succ

theorem drew_size (w : World) : w.drew.heap.size = w.heap.size := rfl
theorem drewN_size (w : World) (n : Nat) : (w.drewN n).heap.size = w.heap.size := rfl

theorem drew_cell (w : World) (a : Addr) : w.drew.cell? a = w.cell? a := rfl
theorem drewN_cell (w : World) (n : Nat) (a : Addr) : (w.drewN n).cell? a = w.cell? a := rfl
theorem cell_new (w : World) (cs : Array Value) (t : TypeId) (o : Nat) : (w.alloc (.cells cs t)).cell? ⟨w.heap.size, o, none⟩ = cs[o]? := by
  rw [cell_of_row _ _ o cs t (0, 0) (heap_alloc_new w _)]
theorem cell_old (w : World) (x : Obj) (b o : Nat) (h : b < w.heap.size) : (w.alloc x).cell? ⟨b, o, none⟩ = w.cell? ⟨b, o, none⟩ := World.cell?_alloc_lt w x _ h

theorem cell_at (w : World) (cs : Array Value) (t : TypeId) (n o : Nat) (h : n = w.heap.size) : (w.alloc (.cells cs t)).cell? ⟨n, o, none⟩ = cs[o]? := by subst h; exact cell_new w cs t o

/-- since w nothing below has turned; the block B holds the result -/
def Kp (B : Nat) (w w' : World) : Prop := Below w.heap.size w w' ∧ B < w'.heap.size ∧ (∃ v, w'.cell? ⟨B, 0, none⟩ = some v) ∧ (∃ v, w'.cell? ⟨B, 1, none⟩ = some v) ∧ w'.frozen? ⟨B, 0, none⟩ = false ∧ w'.frozen? ⟨B, 1, none⟩ = false
theorem Kp.next {w W W' : World} {B : Nat} (h : Kp B w W) (hw : w.heap.size ≤ W.heap.size) (hb : Below W.heap.size W W') : Kp B w W' := by
  obtain ⟨h1, h2, ⟨v, h3⟩, ⟨u, h4⟩, h5, h6⟩ := h
  exact ⟨h1.trans (hb.mono hw), Nat.lt_of_lt_of_le h2 hb.size, ⟨v, cell_next hb h2 h3⟩, ⟨u, cell_next hb h2 h4⟩, frozen_next hb h2 h5, frozen_next hb h2 h6⟩
theorem Kp.set {w W : World} {B : Nat} (h : Kp B w W) (hB : w.heap.size ≤ B) (x y : Value) : Kp B w ((W.setCell ⟨B, 0, none⟩ x).setCell ⟨B, 1, none⟩ y) := by
  obtain ⟨h1, h2, ⟨v, h3⟩, ⟨u, h4⟩, h5, h6⟩ := h
  refine ⟨(h1.setCell hB _).setCell hB _, by simpa [World.setCell] using h2, ⟨x, ?_⟩, ⟨y, ?_⟩, ?_, ?_⟩
  · simp [go_sem, h3, h4]
  · simp [go_sem, h3, h4]
  · simp [go_sem, h5]
  · simp [go_sem, h6]
theorem keep2 {w W W' : World} {b B : Nat} {x y : Option Value} (hb : Below W.heap.size W W') (hB : b ≤ B) (h : W.cell? ⟨b, 0, none⟩ = x ∧ W.cell? ⟨b, 1, none⟩ = y ∧ Kp B w W) :
    W'.cell? ⟨b, 0, none⟩ = x ∧ W'.cell? ⟨b, 1, none⟩ = y ∧ Kp B w W' := by
  obtain ⟨h1, h2, h3⟩ := h
  have := h3.2.1
  exact ⟨cell_next hb (by omega) h1, cell_next hb (by omega) h2, h3.next h3.1.size hb⟩
theorem keep2_set {w W : World} {b B : Nat} {x y : Option Value} {u v : Value} (hB : b < B) (hw : w.heap.size ≤ B) (h : W.cell? ⟨b, 0, none⟩ = x ∧ W.cell? ⟨b, 1, none⟩ = y ∧ Kp B w W) :
    ((W.setCell ⟨B, 0, none⟩ u).setCell ⟨B, 1, none⟩ v).cell? ⟨b, 0, none⟩ = x ∧ ((W.setCell ⟨B, 0, none⟩ u).setCell ⟨B, 1, none⟩ v).cell? ⟨b, 1, none⟩ = y ∧ Kp B w ((W.setCell ⟨B, 0, none⟩ u).setCell ⟨B, 1, none⟩ v) := by
  obtain ⟨h1, h2, h3⟩ := h
  have hne : b ≠ B := by omega
  refine ⟨?_, ?_, h3.set hw u v⟩
  · rw [World.cell?_setCell_other _ _ _ _ (by intro e; injection e; omega), World.cell?_setCell_other _ _ _ _ (by intro e; injection e; omega)]; exact h1
  · rw [World.cell?_setCell_other _ _ _ _ (by intro e; injection e; omega), World.cell?_setCell_other _ _ _ _ (by intro e; injection e; omega)]; exact h2

theorem around_small (a b c : Int) (ha : I64 a) (hb : I64 b) (hc : I64 c) (hc0 : c ≠ 0) (hs : a.natAbs * b.natAbs < 18446744073709551616) (w : World) :
    Calls Try.prog 23 #[.agg #[.int .i64 a, .int .i64 b, .int .i64 c]] w fun e w' => e = .returned (.agg #[.int .i64 (qLo a b c), .int .i64 (qHi a b c)]) ∧ Below w.heap.size w w' :=
  around_of a b c (fun w => divide_small a b c ha hb hc hc0 hs w) w

theorem hull_one (lo hi a b : Int) (g : Nat) (w : World) (hg : g < w.heap.size) (h0 : w.cell? ⟨g, 0, none⟩ = some (.int .i64 a)) (h1 : w.cell? ⟨g, 1, none⟩ = some (.int .i64 b)) :
    Calls Try.prog 27 #[.agg #[.int .i64 lo, .int .i64 hi], .slice (some ⟨g, 0, none⟩) 1 1] w fun e w' =>
      e = .returned (.agg #[.int .i64 (min lo a), .int .i64 (max hi b)]) ∧ Below w.heap.size w w' :=
  hull_any lo hi g 0 [(a, b)] 1 w hg (fun k p hp => by
    rcases k with _ | k
    · simp at hp; subst hp; exact ⟨h0, h1⟩
    · simp at hp) (by simp)

end Go.Proofs.Ytloddjjmoaljhaa

