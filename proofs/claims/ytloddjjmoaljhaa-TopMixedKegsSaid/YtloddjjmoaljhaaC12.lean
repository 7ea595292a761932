/- Contracts: Draw. -/
import Derived.Test.YtloddjjmoaljhaaC11
import Derived.BigRegion
namespace Go.Proofs.Ytloddjjmoaljhaa
open Go.RowKit Go.Lib Go.Shelf
set_option linter.unusedVariables false
set_option linter.unusedSimpArgs false
attribute [local go_sem ↓] Go.wp_at_zero Go.wp_at_succ

/-- what batch.draw does at block g: mass m is taken, of which q is sugar -/
def DrawsAt (a s m q : Int) : Prop := ∀ (g : Nat) (w : World), g < w.heap.size → w.cell? ⟨g, 0, none⟩ = some (.int .i64 a) → w.cell? ⟨g, 1, none⟩ = some (.int .i64 s) → w.frozen? ⟨g, 0, none⟩ = false → w.frozen? ⟨g, 1, none⟩ = false →
    Calls Try.prog 28 #[.pointer (some ⟨g, 0, none⟩), .int .i64 m] w fun e w' =>
      e = .returned (.agg #[.int .i64 (m - q), .int .i64 q]) ∧ w.grownBy w' (some g) ∧ w'.cell? ⟨g, 0, none⟩ = some (.int .i64 (a - (m - q))) ∧ w'.cell? ⟨g, 1, none⟩ = some (.int .i64 (s - q))

theorem drawsAt_zero (a s : Int) : DrawsAt a s 0 0 := fun g w hg h0 h1 _ _ => by
  refine (bdraw_zero g w hg).mono ?_
  rintro e w' ⟨rfl, hb⟩
  exact ⟨by simp, only_of_below hb _, by rw [cell_next hb hg h0]; simp, by rw [cell_next hb hg h1]; simp⟩
theorem drawsAt_pos (a s m q : Int) (hv : spB a s = true) (m1 : 0 < m) (m2 : m ≤ a + s) (hd : Divides s m (a + s)) (hq : qLo s m (a + s) = q) (q1 : 0 ≤ q) (q2 : q ≤ 1000000000000) : DrawsAt a s m q :=
  fun g w hg h0 h1 f0 f1 => bdraw_any a s m q g hv m1 m2 hd hq q1 q2 w hg h0 h1 f0 f1

theorem set2 {w : World} {b : Nat} {u v : Value} (x y : Value) (h0 : w.cell? ⟨b, 0, none⟩ = some u) (h1 : w.cell? ⟨b, 1, none⟩ = some v) :
    ((w.setCell ⟨b, 0, none⟩ x).setCell ⟨b, 1, none⟩ y).cell? ⟨b, 0, none⟩ = some x ∧ ((w.setCell ⟨b, 0, none⟩ x).setCell ⟨b, 1, none⟩ y).cell? ⟨b, 1, none⟩ = some y := by
  have e1 : (w.setCell ⟨b, 0, none⟩ x).cell? ⟨b, 1, none⟩ = some v := by rw [World.cell?_setCell_other _ _ _ _ (by intro h; injection h; omega)]; exact h1
  refine ⟨?_, World.cell?_setCell_same _ _ _ e1⟩
  rw [World.cell?_setCell_other _ _ _ _ (by intro h; injection h; omega)]
  exact World.cell?_setCell_same _ _ _ h0
theorem set2_far {w : World} {b c o : Nat} {v : Option Value} (x y : Value) (hne : b ≠ c) (h : w.cell? ⟨c, o, none⟩ = v) : ((w.setCell ⟨b, 0, none⟩ x).setCell ⟨b, 1, none⟩ y).cell? ⟨c, o, none⟩ = v := by
  rw [World.cell?_setCell_other _ _ _ _ (by intro h; injection h; omega), World.cell?_setCell_other _ _ _ _ (by intro h; injection h; omega)]
  exact h
theorem res_Draw {W : World} {tmps : Array Value} {g1 g2 : Nat} {x y u v e : Int} (t4 : tmps.getD 4 undef = .pointer (some ⟨g1, 0, none⟩)) (t5 : tmps.getD 5 undef = .pointer (some ⟨g2, 0, none⟩)) (t6 : tmps.getD 6 undef = .int .i64 e)
    (h1 : W.cell? ⟨g1, 0, none⟩ = some (.int .i64 x)) (h2 : W.cell? ⟨g1, 1, none⟩ = some (.int .i64 y)) (h3 : W.cell? ⟨g2, 0, none⟩ = some (.int .i64 u)) (h4 : W.cell? ⟨g2, 1, none⟩ = some (.int .i64 v)) :
    (results Try.f10 tmps).run Try.prog W = .ok (.tuple #[.agg #[.int .i64 x, .int .i64 y], .agg #[.int .i64 u, .int .i64 v], .int .i64 e]) W := by
  rw [Array.getD_eq_getD_getElem?] at t4 t5 t6
  simp [results, Try.results10, go_sem, t4, t5, t6, h1, h2, h3, h4]
theorem grown_cell {w w' : World} {g b o : Nat} {v : Option Value} (h : w.grownBy w' (some g)) (hb : b < w.heap.size) (hne : b ≠ g) (hc : w.cell? ⟨b, o, none⟩ = v) : w'.cell? ⟨b, o, none⟩ = v :=
  (World.cell?_of_block (h.block b hb (by simpa using hne))).trans hc
theorem grown_frozen {w w' : World} {g b o : Nat} {v : Bool} (h : w.grownBy w' (some g)) (hb : b < w.heap.size) (hne : b ≠ g) (hc : w.frozen? ⟨b, o, none⟩ = v) : w'.frozen? ⟨b, o, none⟩ = v :=
  (World.frozen?_of_block (h.block b hb (by simpa using hne))).trans hc

set_option maxRecDepth 20000 in
set_option maxHeartbeats 600000 in
theorem draw_ok (a s m q : Int) (hv : spB a s = true) (m1 : 0 ≤ m) (m2 : m ≤ a + s) (hd : DrawsAt a s m q) (w : World) :
    Calls Try.prog 10 #[.agg #[.int .i64 a, .int .i64 s], .int .i64 m] w fun e w' =>
      e = .returned (.tuple #[.agg #[.int .i64 (m - q), .int .i64 q], .agg #[.int .i64 (a - (m - q)), .int .i64 (s - q)], .int .i64 0]) ∧ Below w.heap.size w w' := by
  have c0 : Hid (∀ w, Calls Try.prog 20 #[.agg #[.int .i64 a, .int .i64 s]] w fun e w' => e = .returned (.bool true) ∧ Below w.heap.size w w') := fun w => by
    refine (sapValid_any a s w).mono ?_
    rintro e w' ⟨rfl, hb⟩
    exact ⟨by rw [hv], hb⟩
  have c1 := Lib.hid (sapMass_any a s hv)
  have c2 := Lib.hid hd
  clear hd hv
  generalize a + s = t at *
  have mb : (decide (m < 0)) = false := by simp; omega
  have hm : ¬ t < m := by omega
  go_enter Try.func10, Try.ntmps10
  go_wp2_with fail
  refine (c0.out _).mono ?_
  rintro e w1 ⟨rfl, hb1⟩
  have c10 := cell_next hb1 (b := w.heap.size + 1) (o := 0) (by simp <;> omega) (v := some (.int .i64 0)) (by simp [go_sem])
  have f10 := frozen_next hb1 (b := w.heap.size + 1) (o := 0) (by simp <;> omega) (v := false) (by simp [go_sem])
  have c11 := cell_next hb1 (b := w.heap.size + 1) (o := 1) (by simp <;> omega) (v := some (.int .i64 0)) (by simp [go_sem])
  have f11 := frozen_next hb1 (b := w.heap.size + 1) (o := 1) (by simp <;> omega) (v := false) (by simp [go_sem])
  have c20 := cell_next hb1 (b := w.heap.size + 1 + 1) (o := 0) (by simp <;> omega) (v := some (.int .i64 0)) (by simp [go_sem])
  have f20 := frozen_next hb1 (b := w.heap.size + 1 + 1) (o := 0) (by simp <;> omega) (v := false) (by simp [go_sem])
  have c21 := cell_next hb1 (b := w.heap.size + 1 + 1) (o := 1) (by simp <;> omega) (v := some (.int .i64 0)) (by simp [go_sem])
  have f21 := frozen_next hb1 (b := w.heap.size + 1 + 1) (o := 1) (by simp <;> omega) (v := false) (by simp [go_sem])
  have c30 := cell_next hb1 (b := w.heap.size + 1 + 1 + 1) (o := 0) (by simp <;> omega) (v := some (.int .i64 a)) (by simp [go_sem])
  have f30 := frozen_next hb1 (b := w.heap.size + 1 + 1 + 1) (o := 0) (by simp <;> omega) (v := false) (by simp [go_sem])
  have c31 := cell_next hb1 (b := w.heap.size + 1 + 1 + 1) (o := 1) (by simp <;> omega) (v := some (.int .i64 s)) (by simp [go_sem])
  have f31 := frozen_next hb1 (b := w.heap.size + 1 + 1 + 1) (o := 1) (by simp <;> omega) (v := false) (by simp [go_sem])
  have hz := hb1.size
  simp at hz
  have z1 : w.heap.size + 1 < w1.heap.size := by omega
  have z2 : w.heap.size + 1 + 1 < w1.heap.size := by omega
  have z3 : w.heap.size + 1 + 1 + 1 < w1.heap.size := by omega
  have hB := below4 hb1
  clear hb1 hz
  go_wp2_with fail
  refine (c1.out _).mono ?_
  rintro e w2 ⟨rfl, hb2⟩
  replace c10 := cell_next hb2 z1 c10
  replace f10 := frozen_next hb2 z1 f10
  replace c11 := cell_next hb2 z1 c11
  replace f11 := frozen_next hb2 z1 f11
  replace c20 := cell_next hb2 z2 c20
  replace f20 := frozen_next hb2 z2 f20
  replace c21 := cell_next hb2 z2 c21
  replace f21 := frozen_next hb2 z2 f21
  replace c30 := cell_next hb2 z3 c30
  replace f30 := frozen_next hb2 z3 f30
  replace c31 := cell_next hb2 z3 c31
  replace f31 := frozen_next hb2 z3 f31
  replace z1 := Nat.lt_of_lt_of_le z1 hb2.size
  replace z2 := Nat.lt_of_lt_of_le z2 hb2.size
  replace z3 := Nat.lt_of_lt_of_le z3 hb2.size
  replace hB := hB.trans (hb2.mono hB.size)
  clear hb2
  go_wp2_with fail
  refine (c2.out _ _ z3 c30 c31 f30 f31).mono ?_
  rintro e w3 ⟨rfl, hg, e0, e1⟩
  replace c10 := grown_cell hg z1 (by omega) c10
  replace f10 := grown_frozen hg z1 (by omega) f10
  replace c11 := grown_cell hg z1 (by omega) c11
  replace f11 := grown_frozen hg z1 (by omega) f11
  replace c20 := grown_cell hg z2 (by omega) c20
  replace f20 := grown_frozen hg z2 (by omega) f20
  replace c21 := grown_cell hg z2 (by omega) c21
  replace f21 := grown_frozen hg z2 (by omega) f21
  replace z1 := Nat.lt_of_lt_of_le z1 hg.size
  replace z2 := Nat.lt_of_lt_of_le z2 hg.size
  replace z3 := Nat.lt_of_lt_of_le z3 hg.size
  replace hB := hB.grown hg hB.size (fun k hk => by injection hk; omega)
  clear c30 c31 f30 f31 hg
  go_wp2_with fail
  go_region
  all_goals
    go_wp2_with fail
    have p1 := set2 (.int .i64 (m - q)) (.int .i64 q) c10 c11
    have p2 := set2 (.int .i64 (m - q)) (.int .i64 q) p1.1 p1.2
    have l0 := set2_far (.int .i64 (m - q)) (.int .i64 q) (by omega : w.heap.size + 1 ≠ w.heap.size + 1 + 1) (set2_far (.int .i64 (m - q)) (.int .i64 q) (by omega : w.heap.size + 1 ≠ w.heap.size + 1 + 1) c20)
    have l1 := set2_far (.int .i64 (m - q)) (.int .i64 q) (by omega : w.heap.size + 1 ≠ w.heap.size + 1 + 1) (set2_far (.int .i64 (m - q)) (.int .i64 q) (by omega : w.heap.size + 1 ≠ w.heap.size + 1 + 1) c21)
    have p3 := set2 (.int .i64 (a - (m - q))) (.int .i64 (s - q)) l0 l1
    have p4 := set2_far (.int .i64 (a - (m - q))) (.int .i64 (s - q)) (by omega : w.heap.size + 1 + 1 ≠ w.heap.size + 1) p2.1
    have p5 := set2_far (.int .i64 (a - (m - q))) (.int .i64 (s - q)) (by omega : w.heap.size + 1 + 1 ≠ w.heap.size + 1) p2.2
    refine bodyPost_ret (res_Draw (g1 := w.heap.size + 1) (g2 := w.heap.size + 1 + 1) (by rfl) (by rfl) (by rfl) ((drew_cell _ _).trans p4) ((drew_cell _ _).trans p5) ((drew_cell _ _).trans p3.1) ((drew_cell _ _).trans p3.2)) rfl ⟨rfl, ?_⟩
    repeat (first | with_reducible exact hB | with_reducible refine Below.drew ?_ | (with_reducible refine Below.setCell ?_ ?hp _; case hp => simp <;> omega))
end Go.Proofs.Ytloddjjmoaljhaa

