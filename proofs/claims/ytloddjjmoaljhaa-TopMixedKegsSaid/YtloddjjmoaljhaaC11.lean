/- Contracts: what is drawn of sap, and what is left. -/
import Derived.Test.YtloddjjmoaljhaaC10
namespace Go.Proofs.Ytloddjjmoaljhaa
open Go.RowKit Go.Lib Go.Shelf
set_option linter.unusedVariables false
set_option linter.unusedSimpArgs false
attribute [local go_sem ↓] Go.wp_at_zero Go.wp_at_succ

theorem only_setCell {a w : World} {g : Nat} (h : a.grownBy w (some g)) {p : Addr} (hp : p.block = g ∨ a.heap.size ≤ p.block) (u : Value) : a.grownBy (w.setCell p u) (some g) :=
  ⟨h.os, h.tape, h.output, by simpa [World.setCell] using h.size, fun i hi hne => (Below.heap_setCell w p u i (by
    rintro rfl
    rcases hp with hp | hp
    · exact hne (by rw [hp])
    · omega)).trans (h.block i hi hne)⟩
theorem only_of_below {a w : World} (h : Below a.heap.size a w) (row : Option Nat) : a.grownBy w row := ⟨h.os, h.tape, h.output, h.size, fun i hi _ => h.block i hi⟩

set_option maxRecDepth 20000 in
set_option maxHeartbeats 400000 in
theorem bdraw_zero (g : Nat) (w : World) (hg : g < w.heap.size) :
    Calls Try.prog 28 #[.pointer (some ⟨g, 0, none⟩), .int .i64 0] w fun e w' => e = .returned (.agg #[.int .i64 0, .int .i64 0]) ∧ Below w.heap.size w w' := by
  go_enter Try.func28, Try.ntmps28
  go_wp2
  refine bodyPost_ret (v := .agg #[.int .i64 0, .int .i64 0]) (by simp [results, Try.results28, go_sem]) rfl ⟨rfl, ?_⟩
  exact (Below.refl _ _).alloc (Nat.le_refl _) _

set_option maxRecDepth 20000 in
set_option maxHeartbeats 1000000 in
theorem bdraw_any (a s mass q : Int) (g : Nat) (hv : spB a s = true) (m1 : 0 < mass) (m2 : mass ≤ a + s) (hd : Divides s mass (a + s)) (hq : qLo s mass (a + s) = q) (q1 : 0 ≤ q) (q2 : q ≤ 1000000000000) (w : World) (hg : g < w.heap.size)
    (h0 : w.cell? ⟨g, 0, none⟩ = some (.int .i64 a)) (h1 : w.cell? ⟨g, 1, none⟩ = some (.int .i64 s)) (f0 : w.frozen? ⟨g, 0, none⟩ = false) (f1 : w.frozen? ⟨g, 1, none⟩ = false) :
    Calls Try.prog 28 #[.pointer (some ⟨g, 0, none⟩), .int .i64 mass] w fun e w' =>
      e = .returned (.agg #[.int .i64 (mass - q), .int .i64 q]) ∧ w.grownBy w' (some g) ∧ w'.cell? ⟨g, 0, none⟩ = some (.int .i64 (a - (mass - q))) ∧ w'.cell? ⟨g, 1, none⟩ = some (.int .i64 (s - q)) := by
  obtain ⟨p1, p2, p3, p4⟩ := spB_of hv
  have c1 := Lib.hid (sapMass_any a s hv)
  have c2 := Lib.hid (around_of s mass (a + s) hd)
  rw [hq] at c2
  clear hv hd hq
  generalize qHi s mass (a + s) = u at *
  have mb : (mass == 0) = false := by simp; omega
  have hf := field_lo
  obtain ⟨t, ht⟩ : ∃ t, a + s = t := ⟨_, rfl⟩
  rw [ht] at c1 c2
  have tb : t ≤ 2000000000000 := by omega
  have m2' : mass ≤ t := by omega
  clear ht m2
  have hS : w.cell? ⟨g, 0, none⟩ = some (.int .i64 a) ∧ w.cell? ⟨g, 1, none⟩ = some (.int .i64 s) ∧ Kq g w w := ⟨h0, h1, Below.refl _ _, hg⟩
  go_enter Try.func28, Try.ntmps28
  go_wp2_with fail
  obtain ⟨s0, s1, _⟩ := keepq ((Below.refl _ _).alloc (Nat.le_refl _) (.cells #[.int .i64 0, .int .i64 0] 30)) hS
  have hS' := And.intro s0 (And.intro s1 (show Kq g (w.alloc (.cells #[.int .i64 0, .int .i64 0] 30)) (w.alloc (.cells #[.int .i64 0, .int .i64 0] 30)) from ⟨Below.refl _ _, by simp; omega⟩))
  clear hS s0 s1
  go_region_held3 (fun w' => w'.cell? ⟨g, 0, none⟩ = some (.int .i64 a) ∧ w'.cell? ⟨g, 1, none⟩ = some (.int .i64 s) ∧ Kq g (w.alloc (.cells #[.int .i64 0, .int .i64 0] 30)) w')
      (first | exact keepq (Below.drew (Below.refl _ _)) (by assumption) | exact keepq ((Below.refl _ _).alloc (Nat.le_refl _) _) (by assumption) | exact keepq hb5 (by assumption) | exact keepq hb6 (by assumption) | exact keepq hb7 (by assumption) | assumption)
      (first
        | (go_at_call 21; (with_reducible refine (c1.out _).mono ?_); rintro e w5 ⟨rfl, hb5⟩)
        | (go_at_call 22; refine (quotientOf3 s mass t _ _ ?_ ?_ ?_ ?_).mono ?_; (focus (simp [drew_size, drewN_size])); (focus (simp [drew_cell, cell_new])); (focus (simp [drew_cell, cell_new])); (focus (simp [drew_cell, cell_new])); rintro e w6 ⟨rfl, hb6⟩)
        | (go_at_call 23; (with_reducible refine (c2.out _).mono ?_); rintro e w7 ⟨rfl, hb7⟩))
  all_goals
    obtain ⟨s0, s1, k, kz⟩ := ‹_ ∧ _ ∧ Kq _ _ _›
    have k0 := cell_next k (b := w.heap.size) (o := 0) (by simp) (v := some (.int .i64 0)) (by simp)
    have k1 := cell_next k (b := w.heap.size) (o := 1) (by simp) (v := some (.int .i64 0)) (by simp)
    have k2 := frozen_next k (b := w.heap.size) (o := 0) (by simp) (v := false) (by simp)
    have k3 := frozen_next k (b := w.heap.size) (o := 1) (by simp) (v := false) (by simp)
    have kB := below1 k
    replace f0 := frozen_next kB hg f0
    replace f1 := frozen_next kB hg f1
    have hne : g ≠ w.heap.size := by omega
    have hne' : w.heap.size ≠ g := by omega
    clear k h0 h1
    go_wp2_with fail
    refine bodyPost_ret (v := .agg #[.int .i64 (mass - q), .int .i64 q]) (by simp [results, Try.results28, go_sem, k0, k1, hne, hne']) rfl ⟨rfl, ?_, ?_, ?_⟩
    · exact only_setCell (p := ⟨w.heap.size, 1, none⟩) (only_setCell (p := ⟨w.heap.size, 0, none⟩) (only_setCell (p := ⟨g, 0, none⟩) (only_setCell (p := ⟨g, 1, none⟩) (only_of_below kB _) (.inl rfl) _) (.inl rfl) _) (.inr (Nat.le_refl _)) _) (.inr (Nat.le_refl _)) _
    · simp [go_sem, hne, hne', s0, s1, k0, k1]
    · simp [go_sem, hne, hne', s0, s1, k0, k1]
end Go.Proofs.Ytloddjjmoaljhaa

