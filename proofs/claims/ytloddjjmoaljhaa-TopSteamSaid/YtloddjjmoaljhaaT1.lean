/- Contracts: whether a table is valid. -/
import Derived.Test.YtloddjjmoaljhaaC9
import Derived.Deep.RegionWith
namespace Go.Proofs.Ytloddjjmoaljhaa
open Go.RowKit Go.Lib Go.Shelf
set_option linter.unusedVariables false
set_option linter.unusedSimpArgs false
attribute [local go_sem ↓] Go.wp_at_zero Go.wp_at_succ

def rowB (x y : Int) : Bool := decide (-1000000000 ≤ x) && decide (x ≤ 1000000000) && decide (-1000000000 ≤ y) && decide (y ≤ 1000000000)
theorem rowB_of {x y : Int} (h : rowB x y = true) : -1000000000 ≤ x ∧ x ≤ 1000000000 ∧ -1000000000 ≤ y ∧ y ≤ 1000000000 := by simp [rowB] at h; omega

/-- since w nothing below has turned, and block b is there -/
def Kx (b : Nat) (w w' : World) : Prop := Below w.heap.size w w' ∧ b < w'.heap.size
theorem keepx {w W W' : World} {b : Nat} {x y : Option Value} (hb : Below W.heap.size W W') (h : W.cell? ⟨b, 0, none⟩ = x ∧ W.cell? ⟨b, 1, none⟩ = y ∧ Kx b w W) :
    W'.cell? ⟨b, 0, none⟩ = x ∧ W'.cell? ⟨b, 1, none⟩ = y ∧ Kx b w W' := by
  obtain ⟨h1, h2, h3, h4⟩ := h
  exact ⟨cell_next hb h4 h1, cell_next hb h4 h2, h3.trans (hb.mono h3.size), Nat.lt_of_lt_of_le h4 hb.size⟩

theorem take_slot {P : Program} {md : Region.Mode} {ops : Array Oper} {Q : Exit → Act → World → Prop} {S : World → Prop} {i d : Nat} {oi : Oper} {v : Value} {fuel : Nat} {listed : Array Bool} {a : Act} {w : World} (hi : ops[i]? = some oi) (hd : oi.dst = some d)
    (hs : Region.noSelect ops = true) (hf : Region.free md ops listed i = true) (hr : (Region.ready md ops listed).contains i = true)
    (hQ : ∀ c a w, Q (.panic c) (a.put (some d) v) w → Q (.panic c) a w) (hy : YieldsIf P ops S oi v a) (hS : S w)
    (h : wpAnyH P md ops Q S fuel (listed.setIfInBounds i true) { a with tmps := a.tmps.setIfInBounds d v } w) : wpAnyH P md ops Q S (fuel + 1) listed a w :=
  wpAnyH_take hi hs hf hr (by rw [hd]; exact hQ) hy hS (by rw [hd]; exact h)

/-- whether row k of a table is as it must be -/
def rowOk (xs : List (Int × Int)) (k : Nat) : Bool :=
  match xs[k]? with
  | none => true
  | some p => rowB p.1 p.2 && (match k with | 0 => true | j + 1 => match xs[j]? with | none => true | some q => decide (q.1 < p.1))
def rowsOk (xs : List (Int × Int)) (n : Nat) : Bool := (List.range n).all (rowOk xs)
def tabOk (xs : List (Int × Int)) : Bool := decide (2 ≤ xs.length) && decide (xs.length ≤ 60) && rowsOk xs xs.length
def tabE (xs : List (Int × Int)) : Int := if tabOk xs then 0 else 2
theorem rowOk_of {xs : List (Int × Int)} {k : Nat} {p : Int × Int} (h : xs[k]? = some p) : rowOk xs k = (rowB p.1 p.2 && (match k with | 0 => true | j + 1 => match xs[j]? with | none => true | some q => decide (q.1 < p.1))) := by
  cases k with
  | zero => simp [rowOk, h]
  | succ j => simp [rowOk, h]
theorem rowOk_zero {xs : List (Int × Int)} {k : Nat} {p : Int × Int} (h : xs[k]? = some p) (hk : k = 0) : rowOk xs k = rowB p.1 p.2 := by subst hk; rw [rowOk_of h]; simp
theorem rowOk_succ {xs : List (Int × Int)} {j : Nat} {p q : Int × Int} (h : xs[j + 1]? = some p) (hq : xs[j]? = some q) : rowOk xs (j + 1) = (rowB p.1 p.2 && decide (q.1 < p.1)) := by rw [rowOk_of h]; simp only [hq]
theorem keepx3 {w W W' : World} {b g o : Nat} {x y z : Option Value} (hgw : g < b) (hb : Below W.heap.size W W') (h : W.cell? ⟨b, 0, none⟩ = x ∧ W.cell? ⟨b, 1, none⟩ = y ∧ W.cell? ⟨g, o, none⟩ = z ∧ Kx b w W) :
    W'.cell? ⟨b, 0, none⟩ = x ∧ W'.cell? ⟨b, 1, none⟩ = y ∧ W'.cell? ⟨g, o, none⟩ = z ∧ Kx b w W' := by
  obtain ⟨h1, h2, h5, h3, h4⟩ := h
  exact ⟨cell_next hb h4 h1, cell_next hb h4 h2, cell_next hb (by omega) h5, h3.trans (hb.mono h3.size), Nat.lt_of_lt_of_le h4 hb.size⟩
theorem keepx3_of {w W : World} {b g o : Nat} {x y z : Option Value} (hgw : g < b) (h : W.cell? ⟨b, 0, none⟩ = x ∧ W.cell? ⟨b, 1, none⟩ = y ∧ Kx b w W) (hz : W.cell? ⟨g, o, none⟩ = z) :
    W.cell? ⟨b, 0, none⟩ = x ∧ W.cell? ⟨b, 1, none⟩ = y ∧ W.cell? ⟨g, o, none⟩ = z ∧ Kx b w W := ⟨h.1, h.2.1, hz, h.2.2⟩
theorem rowsOk_succ (xs : List (Int × Int)) (n : Nat) : rowsOk xs (n + 1) = (rowsOk xs n && rowOk xs n) := by
  simp [rowsOk, List.range_succ, List.all_append]
theorem rowsOk_no (xs : List (Int × Int)) (n k : Nat) (hk : k < n) (h : rowOk xs k = false) : rowsOk xs n = false := by
  rw [Bool.eq_false_iff]
  intro ha
  have := List.all_eq_true.1 ha k (by simpa using hk)
  rw [h] at this
  cases this
theorem tabE_short {xs : List (Int × Int)} (h : xs.length < 2 ∨ 60 < xs.length) : tabE xs = 2 := by
  unfold tabE tabOk
  rcases h with h | h
  · rw [show decide (2 ≤ xs.length) = false from by simpa using h]; rfl
  · rw [show decide (xs.length ≤ 60) = false from by simpa using h]; simp
theorem tabE_no {xs : List (Int × Int)} (h : rowsOk xs xs.length = false) : tabE xs = 2 := by
  unfold tabE tabOk
  rw [h]; simp
theorem tabE_yes {xs : List (Int × Int)} (h1 : 2 ≤ xs.length) (h2 : xs.length ≤ 60) (h : rowsOk xs xs.length = true) : tabE xs = 0 := by
  unfold tabE tabOk
  rw [h]; simp [h1, h2]

end Go.Proofs.Ytloddjjmoaljhaa

