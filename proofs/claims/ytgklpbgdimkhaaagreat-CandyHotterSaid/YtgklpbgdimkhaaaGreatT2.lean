/- Contracts: the places between two rows at which the value lies in a range. -/
import Derived.Test.YtgklpbgdimkhaaaGreatT1
import Derived.BigRegion
namespace Go.Proofs.YtgklpbgdimkhaaaGreat
open Go.RowKit Go.Lib Go.Shelf
set_option linter.unusedVariables false
set_option linter.unusedSimpArgs false
attribute [local go_sem ↓] Go.wp_at_zero Go.wp_at_succ

theorem dec_add (a x : Int) : Value.bool (decide (a ≤ a + x)) = Value.bool (decide (0 ≤ x)) := by congr 1; simp; omega
theorem res_places {W : World} {tmps : Array Value} {g : Nat} {x y : Int} {b : Bool} (t6 : tmps.getD 6 undef = .pointer (some ⟨g, 0, none⟩)) (t7 : tmps.getD 7 undef = .bool b)
    (h1 : W.cell? ⟨g, 0, none⟩ = some (.int .i64 x)) (h2 : W.cell? ⟨g, 1, none⟩ = some (.int .i64 y)) :
    (results Tryz.f135 tmps).run Tryz.prog W = .ok (.tuple #[.agg #[.int .i64 x, .int .i64 y], .bool b]) W := by
  rw [Array.getD_eq_getD_getElem?] at t6 t7
  simp [results, Tryz.results135, go_sem, t6, t7, h1, h2]

set_option maxRecDepth 20000 in
set_option maxHeartbeats 8000000 in
/-- E: the end of the range at which the value enters it; L: the end at which it leaves it -/
theorem places_slope (ax ay bx b_y yl yh E L f l : Int) (ha : rowB ax ay = true) (hb : rowB bx b_y = true) (hy : vrB yl yh = true) (hne : b_y - ay ≠ 0) (hE : (b_y - ay < 0 ∧ E = yh ∧ L = yl) ∨ (¬ b_y - ay < 0 ∧ E = yl ∧ L = yh))
    (hf : qHi (E - ay) (bx - ax) (b_y - ay) = f) (hl : qLo (L - ay) (bx - ax) (b_y - ay) = l)
    (hd1 : Divides (E - ay) (bx - ax) (b_y - ay)) (hd2 : Divides (L - ay) (bx - ax) (b_y - ay))
    (hfb : -2000000000000000000 ≤ f ∧ f ≤ 2000000000000000000) (hlb : -2000000000000000000 ≤ l ∧ l ≤ 2000000000000000000) (w : World) :
    Calls Tryz.prog 135 #[.agg #[.int .i64 ax, .int .i64 ay], .agg #[.int .i64 bx, .int .i64 b_y], .agg #[.int .i64 yl, .int .i64 yh]] w fun e w' =>
      e = .returned (.tuple #[.agg #[.int .i64 (ax + max 0 f), .int .i64 (ax + min (bx - ax) l)], .bool (decide (max 0 f ≤ min (bx - ax) l))]) ∧ Below w.heap.size w w' := by
  obtain ⟨a1, a2, a3, a4⟩ := rowB_of ha
  obtain ⟨b1, b2, b3, b4⟩ := rowB_of hb
  have hy' : -1000000000000000 ≤ yl ∧ yl ≤ yh ∧ yh ≤ 1000000000000000 := by simp [vrB] at hy; omega
  obtain ⟨y1, y2, y3⟩ := hy'
  have c1 := Lib.hid (around_of _ _ _ hd1)
  have c2 := Lib.hid (around_of _ _ _ hd2)
  rw [hf] at c1
  rw [hl] at c2
  clear hd1 hd2 ha hb hy hf hl
  generalize qLo (E - ay) (bx - ax) (b_y - ay) = u1 at *
  generalize qHi (L - ay) (bx - ax) (b_y - ay) = u2 at *
  have hz : (b_y - ay == 0) = false := by simp; omega
  have flo := field_lo
  have fhi := field_hi
  have hne' := Lib.hid hne
  clear hne
  have hw1 : IntKind.i64.wrap (b_y - ay) = b_y - ay := IntWalk.i64_in _ (by omega)
  have hw2 : IntKind.i64.wrap (bx - ax) = bx - ax := IntWalk.i64_in _ (by omega)
  rcases (by omega : f < 0 ∨ f = 0 ∨ 0 < f) with hf0 | rfl | hf0
  · rw [Int.max_eq_left (by omega)]
    rcases Int.lt_or_le l (bx - ax) with hl0 | hl0
    · rw [Int.min_eq_right (by omega)]
      obtain ⟨hs, rfl, rfl⟩ | ⟨hs, rfl, rfl⟩ := hE
      · go_enter Tryz.func135, Tryz.ntmps135
        go_wp2_with fail
        go_quiet (fail)
        go_wp2_with fail
        go_quiet (fail)
        go_wp2_with fail
        try (go_quiet (fail); go_wp2_with fail)
        refine (quotientOf3 (E - ay) (bx - ax) (b_y - ay) _ _ (by simp [drew_size, drewN_size]) (by simp [go_sem, drew_cell, drewN_cell]) (by simp [go_sem, drew_cell, drewN_cell]) (by simp [go_sem, drew_cell, drewN_cell])).mono ?_
        rintro e w1 ⟨rfl, hb1⟩
        have c00 := cell_next hb1 (b := w.heap.size) (o := 0) (by simp [drewN_size] <;> omega) (v := some (.int .i64 (ax))) (by simp [go_sem, drewN_cell])
        have c01 := cell_next hb1 (b := w.heap.size) (o := 1) (by simp [drewN_size] <;> omega) (v := some (.int .i64 (ay))) (by simp [go_sem, drewN_cell])
        have c10 := cell_next hb1 (b := w.heap.size + 1) (o := 0) (by simp [drewN_size] <;> omega) (v := some (.int .i64 (bx))) (by simp [go_sem, drewN_cell])
        have c11 := cell_next hb1 (b := w.heap.size + 1) (o := 1) (by simp [drewN_size] <;> omega) (v := some (.int .i64 (b_y))) (by simp [go_sem, drewN_cell])
        have c30 := cell_next hb1 (b := w.heap.size + 1 + 1 + 1) (o := 0) (by simp [drewN_size] <;> omega) (v := some (.int .i64 (0))) (by simp [go_sem, drewN_cell])
        have c31 := cell_next hb1 (b := w.heap.size + 1 + 1 + 1) (o := 1) (by simp [drewN_size] <;> omega) (v := some (.int .i64 (0))) (by simp [go_sem, drewN_cell])
        have f30 := frozen_next hb1 (b := w.heap.size + 1 + 1 + 1) (o := 0) (by simp [drewN_size] <;> omega) (v := false) (by simp [go_sem])
        have f31 := frozen_next hb1 (b := w.heap.size + 1 + 1 + 1) (o := 1) (by simp [drewN_size] <;> omega) (v := false) (by simp [go_sem])
        have hz1 := hb1.size
        simp [drewN_size] at hz1
        have z0 : w.heap.size < w1.heap.size := by omega
        have z1 : w.heap.size + 1 < w1.heap.size := by omega
        have z2 : w.heap.size + 1 + 1 < w1.heap.size := by omega
        have z3 : w.heap.size + 1 + 1 + 1 < w1.heap.size := by omega
        have hB : Below w.heap.size w w1 := ((below_drewN ((((((Below.refl _ _).alloc (Nat.le_refl _) _).alloc (by simp) _).alloc (by simp; omega) _).alloc (by simp; omega) _)) _).alloc (by simp [drewN_size]; omega) _).trans (hb1.mono (by simp [drewN_size]; omega))
        clear hb1 hz1
        go_wp2_with fail
        refine (c1.out _).mono ?_
        rintro e w2 ⟨rfl, hb2⟩
        replace c00 := cell_next hb2 z0 c00
        replace c01 := cell_next hb2 z0 c01
        replace c10 := cell_next hb2 z1 c10
        replace c11 := cell_next hb2 z1 c11
        replace c30 := cell_next hb2 z3 c30
        replace c31 := cell_next hb2 z3 c31
        replace f30 := frozen_next hb2 z3 f30
        replace f31 := frozen_next hb2 z3 f31
        replace z0 := Nat.lt_of_lt_of_le z0 hb2.size
        replace z1 := Nat.lt_of_lt_of_le z1 hb2.size
        replace z2 := Nat.lt_of_lt_of_le z2 hb2.size
        replace z3 := Nat.lt_of_lt_of_le z3 hb2.size
        replace hB := hB.trans (hb2.mono hB.size)
        clear hb2
        go_wp2_with fail
        refine (quotientOf3 (L - ay) (bx - ax) (b_y - ay) _ _ (by simp [drew_size, drewN_size]) (by simp [go_sem, drew_cell, drewN_cell]) (by simp [go_sem, drew_cell, drewN_cell]) (by simp [go_sem, drew_cell, drewN_cell])).mono ?_
        rintro e w3 ⟨rfl, hb3⟩
        have hb3' := below1 hb3
        replace c00 := cell_next hb3' z0 c00
        replace c01 := cell_next hb3' z0 c01
        replace c10 := cell_next hb3' z1 c10
        replace c11 := cell_next hb3' z1 c11
        replace c30 := cell_next hb3' z3 c30
        replace c31 := cell_next hb3' z3 c31
        replace f30 := frozen_next hb3' z3 f30
        replace f31 := frozen_next hb3' z3 f31
        replace z0 := Nat.lt_of_lt_of_le z0 hb3'.size
        replace z1 := Nat.lt_of_lt_of_le z1 hb3'.size
        replace z2 := Nat.lt_of_lt_of_le z2 hb3'.size
        replace z3 := Nat.lt_of_lt_of_le z3 hb3'.size
        replace hB := hB.trans (hb3'.mono hB.size)
        clear hb3'
        clear hb3
        go_wp2_with fail
        refine (c2.out _).mono ?_
        rintro e w4 ⟨rfl, hb4⟩
        replace c00 := cell_next hb4 z0 c00
        replace c01 := cell_next hb4 z0 c01
        replace c10 := cell_next hb4 z1 c10
        replace c11 := cell_next hb4 z1 c11
        replace c30 := cell_next hb4 z3 c30
        replace c31 := cell_next hb4 z3 c31
        replace f30 := frozen_next hb4 z3 f30
        replace f31 := frozen_next hb4 z3 f31
        replace z0 := Nat.lt_of_lt_of_le z0 hb4.size
        replace z1 := Nat.lt_of_lt_of_le z1 hb4.size
        replace z2 := Nat.lt_of_lt_of_le z2 hb4.size
        replace z3 := Nat.lt_of_lt_of_le z3 hb4.size
        replace hB := hB.trans (hb4.mono hB.size)
        clear hb4
        go_wp2_with fail
        all_goals
          go_region
          all_goals
            go_wp2_with fail
            refine bodyPost_ret (res_places (g := w.heap.size + 1 + 1 + 1) (by rfl) (by first | rfl | exact dec_add _ _) ?_ ?_) rfl ⟨rfl, ?_⟩
            · simp [go_sem, c30, c31, z3]
            · simp [go_sem, c30, c31, z3]
            repeat (first | with_reducible exact hB | with_reducible refine Below.drew ?_ | (with_reducible refine Below.alloc ?_ ?_ _; rotate_left 1; focus (simp [go_sem]; omega)) | (with_reducible refine Below.setCell ?_ ?_ _; rotate_left 1; focus (simp <;> omega)))
      · go_enter Tryz.func135, Tryz.ntmps135
        go_wp2_with fail
        go_quiet (fail)
        go_wp2_with fail
        go_quiet (fail)
        go_wp2_with fail
        try (go_quiet (fail); go_wp2_with fail)
        refine (quotientOf3 (E - ay) (bx - ax) (b_y - ay) _ _ (by simp [drew_size, drewN_size]) (by simp [go_sem, drew_cell, drewN_cell]) (by simp [go_sem, drew_cell, drewN_cell]) (by simp [go_sem, drew_cell, drewN_cell])).mono ?_
        rintro e w1 ⟨rfl, hb1⟩
        have c00 := cell_next hb1 (b := w.heap.size) (o := 0) (by simp [drewN_size] <;> omega) (v := some (.int .i64 (ax))) (by simp [go_sem, drewN_cell])
        have c01 := cell_next hb1 (b := w.heap.size) (o := 1) (by simp [drewN_size] <;> omega) (v := some (.int .i64 (ay))) (by simp [go_sem, drewN_cell])
        have c10 := cell_next hb1 (b := w.heap.size + 1) (o := 0) (by simp [drewN_size] <;> omega) (v := some (.int .i64 (bx))) (by simp [go_sem, drewN_cell])
        have c11 := cell_next hb1 (b := w.heap.size + 1) (o := 1) (by simp [drewN_size] <;> omega) (v := some (.int .i64 (b_y))) (by simp [go_sem, drewN_cell])
        have c30 := cell_next hb1 (b := w.heap.size + 1 + 1 + 1) (o := 0) (by simp [drewN_size] <;> omega) (v := some (.int .i64 (0))) (by simp [go_sem, drewN_cell])
        have c31 := cell_next hb1 (b := w.heap.size + 1 + 1 + 1) (o := 1) (by simp [drewN_size] <;> omega) (v := some (.int .i64 (0))) (by simp [go_sem, drewN_cell])
        have f30 := frozen_next hb1 (b := w.heap.size + 1 + 1 + 1) (o := 0) (by simp [drewN_size] <;> omega) (v := false) (by simp [go_sem])
        have f31 := frozen_next hb1 (b := w.heap.size + 1 + 1 + 1) (o := 1) (by simp [drewN_size] <;> omega) (v := false) (by simp [go_sem])
        have hz1 := hb1.size
        simp [drewN_size] at hz1
        have z0 : w.heap.size < w1.heap.size := by omega
        have z1 : w.heap.size + 1 < w1.heap.size := by omega
        have z2 : w.heap.size + 1 + 1 < w1.heap.size := by omega
        have z3 : w.heap.size + 1 + 1 + 1 < w1.heap.size := by omega
        have hB : Below w.heap.size w w1 := ((below_drewN ((((((Below.refl _ _).alloc (Nat.le_refl _) _).alloc (by simp) _).alloc (by simp; omega) _).alloc (by simp; omega) _)) _).alloc (by simp [drewN_size]; omega) _).trans (hb1.mono (by simp [drewN_size]; omega))
        clear hb1 hz1
        go_wp2_with fail
        refine (c1.out _).mono ?_
        rintro e w2 ⟨rfl, hb2⟩
        replace c00 := cell_next hb2 z0 c00
        replace c01 := cell_next hb2 z0 c01
        replace c10 := cell_next hb2 z1 c10
        replace c11 := cell_next hb2 z1 c11
        replace c30 := cell_next hb2 z3 c30
        replace c31 := cell_next hb2 z3 c31
        replace f30 := frozen_next hb2 z3 f30
        replace f31 := frozen_next hb2 z3 f31
        replace z0 := Nat.lt_of_lt_of_le z0 hb2.size
        replace z1 := Nat.lt_of_lt_of_le z1 hb2.size
        replace z2 := Nat.lt_of_lt_of_le z2 hb2.size
        replace z3 := Nat.lt_of_lt_of_le z3 hb2.size
        replace hB := hB.trans (hb2.mono hB.size)
        clear hb2
        go_wp2_with fail
        refine (quotientOf3 (L - ay) (bx - ax) (b_y - ay) _ _ (by simp [drew_size, drewN_size]) (by simp [go_sem, drew_cell, drewN_cell]) (by simp [go_sem, drew_cell, drewN_cell]) (by simp [go_sem, drew_cell, drewN_cell])).mono ?_
        rintro e w3 ⟨rfl, hb3⟩
        have hb3' := below1 hb3
        replace c00 := cell_next hb3' z0 c00
        replace c01 := cell_next hb3' z0 c01
        replace c10 := cell_next hb3' z1 c10
        replace c11 := cell_next hb3' z1 c11
        replace c30 := cell_next hb3' z3 c30
        replace c31 := cell_next hb3' z3 c31
        replace f30 := frozen_next hb3' z3 f30
        replace f31 := frozen_next hb3' z3 f31
        replace z0 := Nat.lt_of_lt_of_le z0 hb3'.size
        replace z1 := Nat.lt_of_lt_of_le z1 hb3'.size
        replace z2 := Nat.lt_of_lt_of_le z2 hb3'.size
        replace z3 := Nat.lt_of_lt_of_le z3 hb3'.size
        replace hB := hB.trans (hb3'.mono hB.size)
        clear hb3'
        clear hb3
        go_wp2_with fail
        refine (c2.out _).mono ?_
        rintro e w4 ⟨rfl, hb4⟩
        replace c00 := cell_next hb4 z0 c00
        replace c01 := cell_next hb4 z0 c01
        replace c10 := cell_next hb4 z1 c10
        replace c11 := cell_next hb4 z1 c11
        replace c30 := cell_next hb4 z3 c30
        replace c31 := cell_next hb4 z3 c31
        replace f30 := frozen_next hb4 z3 f30
        replace f31 := frozen_next hb4 z3 f31
        replace z0 := Nat.lt_of_lt_of_le z0 hb4.size
        replace z1 := Nat.lt_of_lt_of_le z1 hb4.size
        replace z2 := Nat.lt_of_lt_of_le z2 hb4.size
        replace z3 := Nat.lt_of_lt_of_le z3 hb4.size
        replace hB := hB.trans (hb4.mono hB.size)
        clear hb4
        go_wp2_with fail
        all_goals
          go_region
          all_goals
            go_wp2_with fail
            refine bodyPost_ret (res_places (g := w.heap.size + 1 + 1 + 1) (by rfl) (by first | rfl | exact dec_add _ _) ?_ ?_) rfl ⟨rfl, ?_⟩
            · simp [go_sem, c30, c31, z3]
            · simp [go_sem, c30, c31, z3]
            repeat (first | with_reducible exact hB | with_reducible refine Below.drew ?_ | (with_reducible refine Below.alloc ?_ ?_ _; rotate_left 1; focus (simp [go_sem]; omega)) | (with_reducible refine Below.setCell ?_ ?_ _; rotate_left 1; focus (simp <;> omega)))
    · rw [Int.min_eq_left hl0]
      obtain ⟨hs, rfl, rfl⟩ | ⟨hs, rfl, rfl⟩ := hE
      · go_enter Tryz.func135, Tryz.ntmps135
        go_wp2_with fail
        go_quiet (fail)
        go_wp2_with fail
        go_quiet (fail)
        go_wp2_with fail
        try (go_quiet (fail); go_wp2_with fail)
        refine (quotientOf3 (E - ay) (bx - ax) (b_y - ay) _ _ (by simp [drew_size, drewN_size]) (by simp [go_sem, drew_cell, drewN_cell]) (by simp [go_sem, drew_cell, drewN_cell]) (by simp [go_sem, drew_cell, drewN_cell])).mono ?_
        rintro e w1 ⟨rfl, hb1⟩
        have c00 := cell_next hb1 (b := w.heap.size) (o := 0) (by simp [drewN_size] <;> omega) (v := some (.int .i64 (ax))) (by simp [go_sem, drewN_cell])
        have c01 := cell_next hb1 (b := w.heap.size) (o := 1) (by simp [drewN_size] <;> omega) (v := some (.int .i64 (ay))) (by simp [go_sem, drewN_cell])
        have c10 := cell_next hb1 (b := w.heap.size + 1) (o := 0) (by simp [drewN_size] <;> omega) (v := some (.int .i64 (bx))) (by simp [go_sem, drewN_cell])
        have c11 := cell_next hb1 (b := w.heap.size + 1) (o := 1) (by simp [drewN_size] <;> omega) (v := some (.int .i64 (b_y))) (by simp [go_sem, drewN_cell])
        have c30 := cell_next hb1 (b := w.heap.size + 1 + 1 + 1) (o := 0) (by simp [drewN_size] <;> omega) (v := some (.int .i64 (0))) (by simp [go_sem, drewN_cell])
        have c31 := cell_next hb1 (b := w.heap.size + 1 + 1 + 1) (o := 1) (by simp [drewN_size] <;> omega) (v := some (.int .i64 (0))) (by simp [go_sem, drewN_cell])
        have f30 := frozen_next hb1 (b := w.heap.size + 1 + 1 + 1) (o := 0) (by simp [drewN_size] <;> omega) (v := false) (by simp [go_sem])
        have f31 := frozen_next hb1 (b := w.heap.size + 1 + 1 + 1) (o := 1) (by simp [drewN_size] <;> omega) (v := false) (by simp [go_sem])
        have hz1 := hb1.size
        simp [drewN_size] at hz1
        have z0 : w.heap.size < w1.heap.size := by omega
        have z1 : w.heap.size + 1 < w1.heap.size := by omega
        have z2 : w.heap.size + 1 + 1 < w1.heap.size := by omega
        have z3 : w.heap.size + 1 + 1 + 1 < w1.heap.size := by omega
        have hB : Below w.heap.size w w1 := ((below_drewN ((((((Below.refl _ _).alloc (Nat.le_refl _) _).alloc (by simp) _).alloc (by simp; omega) _).alloc (by simp; omega) _)) _).alloc (by simp [drewN_size]; omega) _).trans (hb1.mono (by simp [drewN_size]; omega))
        clear hb1 hz1
        go_wp2_with fail
        refine (c1.out _).mono ?_
        rintro e w2 ⟨rfl, hb2⟩
        replace c00 := cell_next hb2 z0 c00
        replace c01 := cell_next hb2 z0 c01
        replace c10 := cell_next hb2 z1 c10
        replace c11 := cell_next hb2 z1 c11
        replace c30 := cell_next hb2 z3 c30
        replace c31 := cell_next hb2 z3 c31
        replace f30 := frozen_next hb2 z3 f30
        replace f31 := frozen_next hb2 z3 f31
        replace z0 := Nat.lt_of_lt_of_le z0 hb2.size
        replace z1 := Nat.lt_of_lt_of_le z1 hb2.size
        replace z2 := Nat.lt_of_lt_of_le z2 hb2.size
        replace z3 := Nat.lt_of_lt_of_le z3 hb2.size
        replace hB := hB.trans (hb2.mono hB.size)
        clear hb2
        go_wp2_with fail
        refine (quotientOf3 (L - ay) (bx - ax) (b_y - ay) _ _ (by simp [drew_size, drewN_size]) (by simp [go_sem, drew_cell, drewN_cell]) (by simp [go_sem, drew_cell, drewN_cell]) (by simp [go_sem, drew_cell, drewN_cell])).mono ?_
        rintro e w3 ⟨rfl, hb3⟩
        have hb3' := below1 hb3
        replace c00 := cell_next hb3' z0 c00
        replace c01 := cell_next hb3' z0 c01
        replace c10 := cell_next hb3' z1 c10
        replace c11 := cell_next hb3' z1 c11
        replace c30 := cell_next hb3' z3 c30
        replace c31 := cell_next hb3' z3 c31
        replace f30 := frozen_next hb3' z3 f30
        replace f31 := frozen_next hb3' z3 f31
        replace z0 := Nat.lt_of_lt_of_le z0 hb3'.size
        replace z1 := Nat.lt_of_lt_of_le z1 hb3'.size
        replace z2 := Nat.lt_of_lt_of_le z2 hb3'.size
        replace z3 := Nat.lt_of_lt_of_le z3 hb3'.size
        replace hB := hB.trans (hb3'.mono hB.size)
        clear hb3'
        clear hb3
        go_wp2_with fail
        refine (c2.out _).mono ?_
        rintro e w4 ⟨rfl, hb4⟩
        replace c00 := cell_next hb4 z0 c00
        replace c01 := cell_next hb4 z0 c01
        replace c10 := cell_next hb4 z1 c10
        replace c11 := cell_next hb4 z1 c11
        replace c30 := cell_next hb4 z3 c30
        replace c31 := cell_next hb4 z3 c31
        replace f30 := frozen_next hb4 z3 f30
        replace f31 := frozen_next hb4 z3 f31
        replace z0 := Nat.lt_of_lt_of_le z0 hb4.size
        replace z1 := Nat.lt_of_lt_of_le z1 hb4.size
        replace z2 := Nat.lt_of_lt_of_le z2 hb4.size
        replace z3 := Nat.lt_of_lt_of_le z3 hb4.size
        replace hB := hB.trans (hb4.mono hB.size)
        clear hb4
        go_wp2_with fail
        all_goals
          go_region
          all_goals
            go_wp2_with fail
            refine bodyPost_ret (res_places (g := w.heap.size + 1 + 1 + 1) (by rfl) (by first | rfl | exact dec_add _ _) ?_ ?_) rfl ⟨rfl, ?_⟩
            · simp [go_sem, c30, c31, z3]
            · simp [go_sem, c30, c31, z3]
            repeat (first | with_reducible exact hB | with_reducible refine Below.drew ?_ | (with_reducible refine Below.alloc ?_ ?_ _; rotate_left 1; focus (simp [go_sem]; omega)) | (with_reducible refine Below.setCell ?_ ?_ _; rotate_left 1; focus (simp <;> omega)))
      · go_enter Tryz.func135, Tryz.ntmps135
        go_wp2_with fail
        go_quiet (fail)
        go_wp2_with fail
        go_quiet (fail)
        go_wp2_with fail
        try (go_quiet (fail); go_wp2_with fail)
        refine (quotientOf3 (E - ay) (bx - ax) (b_y - ay) _ _ (by simp [drew_size, drewN_size]) (by simp [go_sem, drew_cell, drewN_cell]) (by simp [go_sem, drew_cell, drewN_cell]) (by simp [go_sem, drew_cell, drewN_cell])).mono ?_
        rintro e w1 ⟨rfl, hb1⟩
        have c00 := cell_next hb1 (b := w.heap.size) (o := 0) (by simp [drewN_size] <;> omega) (v := some (.int .i64 (ax))) (by simp [go_sem, drewN_cell])
        have c01 := cell_next hb1 (b := w.heap.size) (o := 1) (by simp [drewN_size] <;> omega) (v := some (.int .i64 (ay))) (by simp [go_sem, drewN_cell])
        have c10 := cell_next hb1 (b := w.heap.size + 1) (o := 0) (by simp [drewN_size] <;> omega) (v := some (.int .i64 (bx))) (by simp [go_sem, drewN_cell])
        have c11 := cell_next hb1 (b := w.heap.size + 1) (o := 1) (by simp [drewN_size] <;> omega) (v := some (.int .i64 (b_y))) (by simp [go_sem, drewN_cell])
        have c30 := cell_next hb1 (b := w.heap.size + 1 + 1 + 1) (o := 0) (by simp [drewN_size] <;> omega) (v := some (.int .i64 (0))) (by simp [go_sem, drewN_cell])
        have c31 := cell_next hb1 (b := w.heap.size + 1 + 1 + 1) (o := 1) (by simp [drewN_size] <;> omega) (v := some (.int .i64 (0))) (by simp [go_sem, drewN_cell])
        have f30 := frozen_next hb1 (b := w.heap.size + 1 + 1 + 1) (o := 0) (by simp [drewN_size] <;> omega) (v := false) (by simp [go_sem])
        have f31 := frozen_next hb1 (b := w.heap.size + 1 + 1 + 1) (o := 1) (by simp [drewN_size] <;> omega) (v := false) (by simp [go_sem])
        have hz1 := hb1.size
        simp [drewN_size] at hz1
        have z0 : w.heap.size < w1.heap.size := by omega
        have z1 : w.heap.size + 1 < w1.heap.size := by omega
        have z2 : w.heap.size + 1 + 1 < w1.heap.size := by omega
        have z3 : w.heap.size + 1 + 1 + 1 < w1.heap.size := by omega
        have hB : Below w.heap.size w w1 := ((below_drewN ((((((Below.refl _ _).alloc (Nat.le_refl _) _).alloc (by simp) _).alloc (by simp; omega) _).alloc (by simp; omega) _)) _).alloc (by simp [drewN_size]; omega) _).trans (hb1.mono (by simp [drewN_size]; omega))
        clear hb1 hz1
        go_wp2_with fail
        refine (c1.out _).mono ?_
        rintro e w2 ⟨rfl, hb2⟩
        replace c00 := cell_next hb2 z0 c00
        replace c01 := cell_next hb2 z0 c01
        replace c10 := cell_next hb2 z1 c10
        replace c11 := cell_next hb2 z1 c11
        replace c30 := cell_next hb2 z3 c30
        replace c31 := cell_next hb2 z3 c31
        replace f30 := frozen_next hb2 z3 f30
        replace f31 := frozen_next hb2 z3 f31
        replace z0 := Nat.lt_of_lt_of_le z0 hb2.size
        replace z1 := Nat.lt_of_lt_of_le z1 hb2.size
        replace z2 := Nat.lt_of_lt_of_le z2 hb2.size
        replace z3 := Nat.lt_of_lt_of_le z3 hb2.size
        replace hB := hB.trans (hb2.mono hB.size)
        clear hb2
        go_wp2_with fail
        refine (quotientOf3 (L - ay) (bx - ax) (b_y - ay) _ _ (by simp [drew_size, drewN_size]) (by simp [go_sem, drew_cell, drewN_cell]) (by simp [go_sem, drew_cell, drewN_cell]) (by simp [go_sem, drew_cell, drewN_cell])).mono ?_
        rintro e w3 ⟨rfl, hb3⟩
        have hb3' := below1 hb3
        replace c00 := cell_next hb3' z0 c00
        replace c01 := cell_next hb3' z0 c01
        replace c10 := cell_next hb3' z1 c10
        replace c11 := cell_next hb3' z1 c11
        replace c30 := cell_next hb3' z3 c30
        replace c31 := cell_next hb3' z3 c31
        replace f30 := frozen_next hb3' z3 f30
        replace f31 := frozen_next hb3' z3 f31
        replace z0 := Nat.lt_of_lt_of_le z0 hb3'.size
        replace z1 := Nat.lt_of_lt_of_le z1 hb3'.size
        replace z2 := Nat.lt_of_lt_of_le z2 hb3'.size
        replace z3 := Nat.lt_of_lt_of_le z3 hb3'.size
        replace hB := hB.trans (hb3'.mono hB.size)
        clear hb3'
        clear hb3
        go_wp2_with fail
        refine (c2.out _).mono ?_
        rintro e w4 ⟨rfl, hb4⟩
        replace c00 := cell_next hb4 z0 c00
        replace c01 := cell_next hb4 z0 c01
        replace c10 := cell_next hb4 z1 c10
        replace c11 := cell_next hb4 z1 c11
        replace c30 := cell_next hb4 z3 c30
        replace c31 := cell_next hb4 z3 c31
        replace f30 := frozen_next hb4 z3 f30
        replace f31 := frozen_next hb4 z3 f31
        replace z0 := Nat.lt_of_lt_of_le z0 hb4.size
        replace z1 := Nat.lt_of_lt_of_le z1 hb4.size
        replace z2 := Nat.lt_of_lt_of_le z2 hb4.size
        replace z3 := Nat.lt_of_lt_of_le z3 hb4.size
        replace hB := hB.trans (hb4.mono hB.size)
        clear hb4
        go_wp2_with fail
        all_goals
          go_region
          all_goals
            go_wp2_with fail
            refine bodyPost_ret (res_places (g := w.heap.size + 1 + 1 + 1) (by rfl) (by first | rfl | exact dec_add _ _) ?_ ?_) rfl ⟨rfl, ?_⟩
            · simp [go_sem, c30, c31, z3]
            · simp [go_sem, c30, c31, z3]
            repeat (first | with_reducible exact hB | with_reducible refine Below.drew ?_ | (with_reducible refine Below.alloc ?_ ?_ _; rotate_left 1; focus (simp [go_sem]; omega)) | (with_reducible refine Below.setCell ?_ ?_ _; rotate_left 1; focus (simp <;> omega)))
  · rw [Int.max_eq_left (by omega)]
    rcases Int.lt_or_le l (bx - ax) with hl0 | hl0
    · rw [Int.min_eq_right (by omega)]
      obtain ⟨hs, rfl, rfl⟩ | ⟨hs, rfl, rfl⟩ := hE
      · go_enter Tryz.func135, Tryz.ntmps135
        go_wp2_with fail
        go_quiet (fail)
        go_wp2_with fail
        go_quiet (fail)
        go_wp2_with fail
        try (go_quiet (fail); go_wp2_with fail)
        refine (quotientOf3 (E - ay) (bx - ax) (b_y - ay) _ _ (by simp [drew_size, drewN_size]) (by simp [go_sem, drew_cell, drewN_cell]) (by simp [go_sem, drew_cell, drewN_cell]) (by simp [go_sem, drew_cell, drewN_cell])).mono ?_
        rintro e w1 ⟨rfl, hb1⟩
        have c00 := cell_next hb1 (b := w.heap.size) (o := 0) (by simp [drewN_size] <;> omega) (v := some (.int .i64 (ax))) (by simp [go_sem, drewN_cell])
        have c01 := cell_next hb1 (b := w.heap.size) (o := 1) (by simp [drewN_size] <;> omega) (v := some (.int .i64 (ay))) (by simp [go_sem, drewN_cell])
        have c10 := cell_next hb1 (b := w.heap.size + 1) (o := 0) (by simp [drewN_size] <;> omega) (v := some (.int .i64 (bx))) (by simp [go_sem, drewN_cell])
        have c11 := cell_next hb1 (b := w.heap.size + 1) (o := 1) (by simp [drewN_size] <;> omega) (v := some (.int .i64 (b_y))) (by simp [go_sem, drewN_cell])
        have c30 := cell_next hb1 (b := w.heap.size + 1 + 1 + 1) (o := 0) (by simp [drewN_size] <;> omega) (v := some (.int .i64 (0))) (by simp [go_sem, drewN_cell])
        have c31 := cell_next hb1 (b := w.heap.size + 1 + 1 + 1) (o := 1) (by simp [drewN_size] <;> omega) (v := some (.int .i64 (0))) (by simp [go_sem, drewN_cell])
        have f30 := frozen_next hb1 (b := w.heap.size + 1 + 1 + 1) (o := 0) (by simp [drewN_size] <;> omega) (v := false) (by simp [go_sem])
        have f31 := frozen_next hb1 (b := w.heap.size + 1 + 1 + 1) (o := 1) (by simp [drewN_size] <;> omega) (v := false) (by simp [go_sem])
        have hz1 := hb1.size
        simp [drewN_size] at hz1
        have z0 : w.heap.size < w1.heap.size := by omega
        have z1 : w.heap.size + 1 < w1.heap.size := by omega
        have z2 : w.heap.size + 1 + 1 < w1.heap.size := by omega
        have z3 : w.heap.size + 1 + 1 + 1 < w1.heap.size := by omega
        have hB : Below w.heap.size w w1 := ((below_drewN ((((((Below.refl _ _).alloc (Nat.le_refl _) _).alloc (by simp) _).alloc (by simp; omega) _).alloc (by simp; omega) _)) _).alloc (by simp [drewN_size]; omega) _).trans (hb1.mono (by simp [drewN_size]; omega))
        clear hb1 hz1
        go_wp2_with fail
        refine (c1.out _).mono ?_
        rintro e w2 ⟨rfl, hb2⟩
        replace c00 := cell_next hb2 z0 c00
        replace c01 := cell_next hb2 z0 c01
        replace c10 := cell_next hb2 z1 c10
        replace c11 := cell_next hb2 z1 c11
        replace c30 := cell_next hb2 z3 c30
        replace c31 := cell_next hb2 z3 c31
        replace f30 := frozen_next hb2 z3 f30
        replace f31 := frozen_next hb2 z3 f31
        replace z0 := Nat.lt_of_lt_of_le z0 hb2.size
        replace z1 := Nat.lt_of_lt_of_le z1 hb2.size
        replace z2 := Nat.lt_of_lt_of_le z2 hb2.size
        replace z3 := Nat.lt_of_lt_of_le z3 hb2.size
        replace hB := hB.trans (hb2.mono hB.size)
        clear hb2
        go_wp2_with fail
        refine (quotientOf3 (L - ay) (bx - ax) (b_y - ay) _ _ (by simp [drew_size, drewN_size]) (by simp [go_sem, drew_cell, drewN_cell]) (by simp [go_sem, drew_cell, drewN_cell]) (by simp [go_sem, drew_cell, drewN_cell])).mono ?_
        rintro e w3 ⟨rfl, hb3⟩
        have hb3' := below1 hb3
        replace c00 := cell_next hb3' z0 c00
        replace c01 := cell_next hb3' z0 c01
        replace c10 := cell_next hb3' z1 c10
        replace c11 := cell_next hb3' z1 c11
        replace c30 := cell_next hb3' z3 c30
        replace c31 := cell_next hb3' z3 c31
        replace f30 := frozen_next hb3' z3 f30
        replace f31 := frozen_next hb3' z3 f31
        replace z0 := Nat.lt_of_lt_of_le z0 hb3'.size
        replace z1 := Nat.lt_of_lt_of_le z1 hb3'.size
        replace z2 := Nat.lt_of_lt_of_le z2 hb3'.size
        replace z3 := Nat.lt_of_lt_of_le z3 hb3'.size
        replace hB := hB.trans (hb3'.mono hB.size)
        clear hb3'
        clear hb3
        go_wp2_with fail
        refine (c2.out _).mono ?_
        rintro e w4 ⟨rfl, hb4⟩
        replace c00 := cell_next hb4 z0 c00
        replace c01 := cell_next hb4 z0 c01
        replace c10 := cell_next hb4 z1 c10
        replace c11 := cell_next hb4 z1 c11
        replace c30 := cell_next hb4 z3 c30
        replace c31 := cell_next hb4 z3 c31
        replace f30 := frozen_next hb4 z3 f30
        replace f31 := frozen_next hb4 z3 f31
        replace z0 := Nat.lt_of_lt_of_le z0 hb4.size
        replace z1 := Nat.lt_of_lt_of_le z1 hb4.size
        replace z2 := Nat.lt_of_lt_of_le z2 hb4.size
        replace z3 := Nat.lt_of_lt_of_le z3 hb4.size
        replace hB := hB.trans (hb4.mono hB.size)
        clear hb4
        go_wp2_with fail
        all_goals
          go_region
          all_goals
            go_wp2_with fail
            refine bodyPost_ret (res_places (g := w.heap.size + 1 + 1 + 1) (by rfl) (by first | rfl | exact dec_add _ _) ?_ ?_) rfl ⟨rfl, ?_⟩
            · simp [go_sem, c30, c31, z3]
            · simp [go_sem, c30, c31, z3]
            repeat (first | with_reducible exact hB | with_reducible refine Below.drew ?_ | (with_reducible refine Below.alloc ?_ ?_ _; rotate_left 1; focus (simp [go_sem]; omega)) | (with_reducible refine Below.setCell ?_ ?_ _; rotate_left 1; focus (simp <;> omega)))
      · go_enter Tryz.func135, Tryz.ntmps135
        go_wp2_with fail
        go_quiet (fail)
        go_wp2_with fail
        go_quiet (fail)
        go_wp2_with fail
        try (go_quiet (fail); go_wp2_with fail)
        refine (quotientOf3 (E - ay) (bx - ax) (b_y - ay) _ _ (by simp [drew_size, drewN_size]) (by simp [go_sem, drew_cell, drewN_cell]) (by simp [go_sem, drew_cell, drewN_cell]) (by simp [go_sem, drew_cell, drewN_cell])).mono ?_
        rintro e w1 ⟨rfl, hb1⟩
        have c00 := cell_next hb1 (b := w.heap.size) (o := 0) (by simp [drewN_size] <;> omega) (v := some (.int .i64 (ax))) (by simp [go_sem, drewN_cell])
        have c01 := cell_next hb1 (b := w.heap.size) (o := 1) (by simp [drewN_size] <;> omega) (v := some (.int .i64 (ay))) (by simp [go_sem, drewN_cell])
        have c10 := cell_next hb1 (b := w.heap.size + 1) (o := 0) (by simp [drewN_size] <;> omega) (v := some (.int .i64 (bx))) (by simp [go_sem, drewN_cell])
        have c11 := cell_next hb1 (b := w.heap.size + 1) (o := 1) (by simp [drewN_size] <;> omega) (v := some (.int .i64 (b_y))) (by simp [go_sem, drewN_cell])
        have c30 := cell_next hb1 (b := w.heap.size + 1 + 1 + 1) (o := 0) (by simp [drewN_size] <;> omega) (v := some (.int .i64 (0))) (by simp [go_sem, drewN_cell])
        have c31 := cell_next hb1 (b := w.heap.size + 1 + 1 + 1) (o := 1) (by simp [drewN_size] <;> omega) (v := some (.int .i64 (0))) (by simp [go_sem, drewN_cell])
        have f30 := frozen_next hb1 (b := w.heap.size + 1 + 1 + 1) (o := 0) (by simp [drewN_size] <;> omega) (v := false) (by simp [go_sem])
        have f31 := frozen_next hb1 (b := w.heap.size + 1 + 1 + 1) (o := 1) (by simp [drewN_size] <;> omega) (v := false) (by simp [go_sem])
        have hz1 := hb1.size
        simp [drewN_size] at hz1
        have z0 : w.heap.size < w1.heap.size := by omega
        have z1 : w.heap.size + 1 < w1.heap.size := by omega
        have z2 : w.heap.size + 1 + 1 < w1.heap.size := by omega
        have z3 : w.heap.size + 1 + 1 + 1 < w1.heap.size := by omega
        have hB : Below w.heap.size w w1 := ((below_drewN ((((((Below.refl _ _).alloc (Nat.le_refl _) _).alloc (by simp) _).alloc (by simp; omega) _).alloc (by simp; omega) _)) _).alloc (by simp [drewN_size]; omega) _).trans (hb1.mono (by simp [drewN_size]; omega))
        clear hb1 hz1
        go_wp2_with fail
        refine (c1.out _).mono ?_
        rintro e w2 ⟨rfl, hb2⟩
        replace c00 := cell_next hb2 z0 c00
        replace c01 := cell_next hb2 z0 c01
        replace c10 := cell_next hb2 z1 c10
        replace c11 := cell_next hb2 z1 c11
        replace c30 := cell_next hb2 z3 c30
        replace c31 := cell_next hb2 z3 c31
        replace f30 := frozen_next hb2 z3 f30
        replace f31 := frozen_next hb2 z3 f31
        replace z0 := Nat.lt_of_lt_of_le z0 hb2.size
        replace z1 := Nat.lt_of_lt_of_le z1 hb2.size
        replace z2 := Nat.lt_of_lt_of_le z2 hb2.size
        replace z3 := Nat.lt_of_lt_of_le z3 hb2.size
        replace hB := hB.trans (hb2.mono hB.size)
        clear hb2
        go_wp2_with fail
        refine (quotientOf3 (L - ay) (bx - ax) (b_y - ay) _ _ (by simp [drew_size, drewN_size]) (by simp [go_sem, drew_cell, drewN_cell]) (by simp [go_sem, drew_cell, drewN_cell]) (by simp [go_sem, drew_cell, drewN_cell])).mono ?_
        rintro e w3 ⟨rfl, hb3⟩
        have hb3' := below1 hb3
        replace c00 := cell_next hb3' z0 c00
        replace c01 := cell_next hb3' z0 c01
        replace c10 := cell_next hb3' z1 c10
        replace c11 := cell_next hb3' z1 c11
        replace c30 := cell_next hb3' z3 c30
        replace c31 := cell_next hb3' z3 c31
        replace f30 := frozen_next hb3' z3 f30
        replace f31 := frozen_next hb3' z3 f31
        replace z0 := Nat.lt_of_lt_of_le z0 hb3'.size
        replace z1 := Nat.lt_of_lt_of_le z1 hb3'.size
        replace z2 := Nat.lt_of_lt_of_le z2 hb3'.size
        replace z3 := Nat.lt_of_lt_of_le z3 hb3'.size
        replace hB := hB.trans (hb3'.mono hB.size)
        clear hb3'
        clear hb3
        go_wp2_with fail
        refine (c2.out _).mono ?_
        rintro e w4 ⟨rfl, hb4⟩
        replace c00 := cell_next hb4 z0 c00
        replace c01 := cell_next hb4 z0 c01
        replace c10 := cell_next hb4 z1 c10
        replace c11 := cell_next hb4 z1 c11
        replace c30 := cell_next hb4 z3 c30
        replace c31 := cell_next hb4 z3 c31
        replace f30 := frozen_next hb4 z3 f30
        replace f31 := frozen_next hb4 z3 f31
        replace z0 := Nat.lt_of_lt_of_le z0 hb4.size
        replace z1 := Nat.lt_of_lt_of_le z1 hb4.size
        replace z2 := Nat.lt_of_lt_of_le z2 hb4.size
        replace z3 := Nat.lt_of_lt_of_le z3 hb4.size
        replace hB := hB.trans (hb4.mono hB.size)
        clear hb4
        go_wp2_with fail
        all_goals
          go_region
          all_goals
            go_wp2_with fail
            refine bodyPost_ret (res_places (g := w.heap.size + 1 + 1 + 1) (by rfl) (by first | rfl | exact dec_add _ _) ?_ ?_) rfl ⟨rfl, ?_⟩
            · simp [go_sem, c30, c31, z3]
            · simp [go_sem, c30, c31, z3]
            repeat (first | with_reducible exact hB | with_reducible refine Below.drew ?_ | (with_reducible refine Below.alloc ?_ ?_ _; rotate_left 1; focus (simp [go_sem]; omega)) | (with_reducible refine Below.setCell ?_ ?_ _; rotate_left 1; focus (simp <;> omega)))
    · rw [Int.min_eq_left hl0]
      obtain ⟨hs, rfl, rfl⟩ | ⟨hs, rfl, rfl⟩ := hE
      · go_enter Tryz.func135, Tryz.ntmps135
        go_wp2_with fail
        go_quiet (fail)
        go_wp2_with fail
        go_quiet (fail)
        go_wp2_with fail
        try (go_quiet (fail); go_wp2_with fail)
        refine (quotientOf3 (E - ay) (bx - ax) (b_y - ay) _ _ (by simp [drew_size, drewN_size]) (by simp [go_sem, drew_cell, drewN_cell]) (by simp [go_sem, drew_cell, drewN_cell]) (by simp [go_sem, drew_cell, drewN_cell])).mono ?_
        rintro e w1 ⟨rfl, hb1⟩
        have c00 := cell_next hb1 (b := w.heap.size) (o := 0) (by simp [drewN_size] <;> omega) (v := some (.int .i64 (ax))) (by simp [go_sem, drewN_cell])
        have c01 := cell_next hb1 (b := w.heap.size) (o := 1) (by simp [drewN_size] <;> omega) (v := some (.int .i64 (ay))) (by simp [go_sem, drewN_cell])
        have c10 := cell_next hb1 (b := w.heap.size + 1) (o := 0) (by simp [drewN_size] <;> omega) (v := some (.int .i64 (bx))) (by simp [go_sem, drewN_cell])
        have c11 := cell_next hb1 (b := w.heap.size + 1) (o := 1) (by simp [drewN_size] <;> omega) (v := some (.int .i64 (b_y))) (by simp [go_sem, drewN_cell])
        have c30 := cell_next hb1 (b := w.heap.size + 1 + 1 + 1) (o := 0) (by simp [drewN_size] <;> omega) (v := some (.int .i64 (0))) (by simp [go_sem, drewN_cell])
        have c31 := cell_next hb1 (b := w.heap.size + 1 + 1 + 1) (o := 1) (by simp [drewN_size] <;> omega) (v := some (.int .i64 (0))) (by simp [go_sem, drewN_cell])
        have f30 := frozen_next hb1 (b := w.heap.size + 1 + 1 + 1) (o := 0) (by simp [drewN_size] <;> omega) (v := false) (by simp [go_sem])
        have f31 := frozen_next hb1 (b := w.heap.size + 1 + 1 + 1) (o := 1) (by simp [drewN_size] <;> omega) (v := false) (by simp [go_sem])
        have hz1 := hb1.size
        simp [drewN_size] at hz1
        have z0 : w.heap.size < w1.heap.size := by omega
        have z1 : w.heap.size + 1 < w1.heap.size := by omega
        have z2 : w.heap.size + 1 + 1 < w1.heap.size := by omega
        have z3 : w.heap.size + 1 + 1 + 1 < w1.heap.size := by omega
        have hB : Below w.heap.size w w1 := ((below_drewN ((((((Below.refl _ _).alloc (Nat.le_refl _) _).alloc (by simp) _).alloc (by simp; omega) _).alloc (by simp; omega) _)) _).alloc (by simp [drewN_size]; omega) _).trans (hb1.mono (by simp [drewN_size]; omega))
        clear hb1 hz1
        go_wp2_with fail
        refine (c1.out _).mono ?_
        rintro e w2 ⟨rfl, hb2⟩
        replace c00 := cell_next hb2 z0 c00
        replace c01 := cell_next hb2 z0 c01
        replace c10 := cell_next hb2 z1 c10
        replace c11 := cell_next hb2 z1 c11
        replace c30 := cell_next hb2 z3 c30
        replace c31 := cell_next hb2 z3 c31
        replace f30 := frozen_next hb2 z3 f30
        replace f31 := frozen_next hb2 z3 f31
        replace z0 := Nat.lt_of_lt_of_le z0 hb2.size
        replace z1 := Nat.lt_of_lt_of_le z1 hb2.size
        replace z2 := Nat.lt_of_lt_of_le z2 hb2.size
        replace z3 := Nat.lt_of_lt_of_le z3 hb2.size
        replace hB := hB.trans (hb2.mono hB.size)
        clear hb2
        go_wp2_with fail
        refine (quotientOf3 (L - ay) (bx - ax) (b_y - ay) _ _ (by simp [drew_size, drewN_size]) (by simp [go_sem, drew_cell, drewN_cell]) (by simp [go_sem, drew_cell, drewN_cell]) (by simp [go_sem, drew_cell, drewN_cell])).mono ?_
        rintro e w3 ⟨rfl, hb3⟩
        have hb3' := below1 hb3
        replace c00 := cell_next hb3' z0 c00
        replace c01 := cell_next hb3' z0 c01
        replace c10 := cell_next hb3' z1 c10
        replace c11 := cell_next hb3' z1 c11
        replace c30 := cell_next hb3' z3 c30
        replace c31 := cell_next hb3' z3 c31
        replace f30 := frozen_next hb3' z3 f30
        replace f31 := frozen_next hb3' z3 f31
        replace z0 := Nat.lt_of_lt_of_le z0 hb3'.size
        replace z1 := Nat.lt_of_lt_of_le z1 hb3'.size
        replace z2 := Nat.lt_of_lt_of_le z2 hb3'.size
        replace z3 := Nat.lt_of_lt_of_le z3 hb3'.size
        replace hB := hB.trans (hb3'.mono hB.size)
        clear hb3'
        clear hb3
        go_wp2_with fail
        refine (c2.out _).mono ?_
        rintro e w4 ⟨rfl, hb4⟩
        replace c00 := cell_next hb4 z0 c00
        replace c01 := cell_next hb4 z0 c01
        replace c10 := cell_next hb4 z1 c10
        replace c11 := cell_next hb4 z1 c11
        replace c30 := cell_next hb4 z3 c30
        replace c31 := cell_next hb4 z3 c31
        replace f30 := frozen_next hb4 z3 f30
        replace f31 := frozen_next hb4 z3 f31
        replace z0 := Nat.lt_of_lt_of_le z0 hb4.size
        replace z1 := Nat.lt_of_lt_of_le z1 hb4.size
        replace z2 := Nat.lt_of_lt_of_le z2 hb4.size
        replace z3 := Nat.lt_of_lt_of_le z3 hb4.size
        replace hB := hB.trans (hb4.mono hB.size)
        clear hb4
        go_wp2_with fail
        all_goals
          go_region
          all_goals
            go_wp2_with fail
            refine bodyPost_ret (res_places (g := w.heap.size + 1 + 1 + 1) (by rfl) (by first | rfl | exact dec_add _ _) ?_ ?_) rfl ⟨rfl, ?_⟩
            · simp [go_sem, c30, c31, z3]
            · simp [go_sem, c30, c31, z3]
            repeat (first | with_reducible exact hB | with_reducible refine Below.drew ?_ | (with_reducible refine Below.alloc ?_ ?_ _; rotate_left 1; focus (simp [go_sem]; omega)) | (with_reducible refine Below.setCell ?_ ?_ _; rotate_left 1; focus (simp <;> omega)))
      · go_enter Tryz.func135, Tryz.ntmps135
        go_wp2_with fail
        go_quiet (fail)
        go_wp2_with fail
        go_quiet (fail)
        go_wp2_with fail
        try (go_quiet (fail); go_wp2_with fail)
        refine (quotientOf3 (E - ay) (bx - ax) (b_y - ay) _ _ (by simp [drew_size, drewN_size]) (by simp [go_sem, drew_cell, drewN_cell]) (by simp [go_sem, drew_cell, drewN_cell]) (by simp [go_sem, drew_cell, drewN_cell])).mono ?_
        rintro e w1 ⟨rfl, hb1⟩
        have c00 := cell_next hb1 (b := w.heap.size) (o := 0) (by simp [drewN_size] <;> omega) (v := some (.int .i64 (ax))) (by simp [go_sem, drewN_cell])
        have c01 := cell_next hb1 (b := w.heap.size) (o := 1) (by simp [drewN_size] <;> omega) (v := some (.int .i64 (ay))) (by simp [go_sem, drewN_cell])
        have c10 := cell_next hb1 (b := w.heap.size + 1) (o := 0) (by simp [drewN_size] <;> omega) (v := some (.int .i64 (bx))) (by simp [go_sem, drewN_cell])
        have c11 := cell_next hb1 (b := w.heap.size + 1) (o := 1) (by simp [drewN_size] <;> omega) (v := some (.int .i64 (b_y))) (by simp [go_sem, drewN_cell])
        have c30 := cell_next hb1 (b := w.heap.size + 1 + 1 + 1) (o := 0) (by simp [drewN_size] <;> omega) (v := some (.int .i64 (0))) (by simp [go_sem, drewN_cell])
        have c31 := cell_next hb1 (b := w.heap.size + 1 + 1 + 1) (o := 1) (by simp [drewN_size] <;> omega) (v := some (.int .i64 (0))) (by simp [go_sem, drewN_cell])
        have f30 := frozen_next hb1 (b := w.heap.size + 1 + 1 + 1) (o := 0) (by simp [drewN_size] <;> omega) (v := false) (by simp [go_sem])
        have f31 := frozen_next hb1 (b := w.heap.size + 1 + 1 + 1) (o := 1) (by simp [drewN_size] <;> omega) (v := false) (by simp [go_sem])
        have hz1 := hb1.size
        simp [drewN_size] at hz1
        have z0 : w.heap.size < w1.heap.size := by omega
        have z1 : w.heap.size + 1 < w1.heap.size := by omega
        have z2 : w.heap.size + 1 + 1 < w1.heap.size := by omega
        have z3 : w.heap.size + 1 + 1 + 1 < w1.heap.size := by omega
        have hB : Below w.heap.size w w1 := ((below_drewN ((((((Below.refl _ _).alloc (Nat.le_refl _) _).alloc (by simp) _).alloc (by simp; omega) _).alloc (by simp; omega) _)) _).alloc (by simp [drewN_size]; omega) _).trans (hb1.mono (by simp [drewN_size]; omega))
        clear hb1 hz1
        go_wp2_with fail
        refine (c1.out _).mono ?_
        rintro e w2 ⟨rfl, hb2⟩
        replace c00 := cell_next hb2 z0 c00
        replace c01 := cell_next hb2 z0 c01
        replace c10 := cell_next hb2 z1 c10
        replace c11 := cell_next hb2 z1 c11
        replace c30 := cell_next hb2 z3 c30
        replace c31 := cell_next hb2 z3 c31
        replace f30 := frozen_next hb2 z3 f30
        replace f31 := frozen_next hb2 z3 f31
        replace z0 := Nat.lt_of_lt_of_le z0 hb2.size
        replace z1 := Nat.lt_of_lt_of_le z1 hb2.size
        replace z2 := Nat.lt_of_lt_of_le z2 hb2.size
        replace z3 := Nat.lt_of_lt_of_le z3 hb2.size
        replace hB := hB.trans (hb2.mono hB.size)
        clear hb2
        go_wp2_with fail
        refine (quotientOf3 (L - ay) (bx - ax) (b_y - ay) _ _ (by simp [drew_size, drewN_size]) (by simp [go_sem, drew_cell, drewN_cell]) (by simp [go_sem, drew_cell, drewN_cell]) (by simp [go_sem, drew_cell, drewN_cell])).mono ?_
        rintro e w3 ⟨rfl, hb3⟩
        have hb3' := below1 hb3
        replace c00 := cell_next hb3' z0 c00
        replace c01 := cell_next hb3' z0 c01
        replace c10 := cell_next hb3' z1 c10
        replace c11 := cell_next hb3' z1 c11
        replace c30 := cell_next hb3' z3 c30
        replace c31 := cell_next hb3' z3 c31
        replace f30 := frozen_next hb3' z3 f30
        replace f31 := frozen_next hb3' z3 f31
        replace z0 := Nat.lt_of_lt_of_le z0 hb3'.size
        replace z1 := Nat.lt_of_lt_of_le z1 hb3'.size
        replace z2 := Nat.lt_of_lt_of_le z2 hb3'.size
        replace z3 := Nat.lt_of_lt_of_le z3 hb3'.size
        replace hB := hB.trans (hb3'.mono hB.size)
        clear hb3'
        clear hb3
        go_wp2_with fail
        refine (c2.out _).mono ?_
        rintro e w4 ⟨rfl, hb4⟩
        replace c00 := cell_next hb4 z0 c00
        replace c01 := cell_next hb4 z0 c01
        replace c10 := cell_next hb4 z1 c10
        replace c11 := cell_next hb4 z1 c11
        replace c30 := cell_next hb4 z3 c30
        replace c31 := cell_next hb4 z3 c31
        replace f30 := frozen_next hb4 z3 f30
        replace f31 := frozen_next hb4 z3 f31
        replace z0 := Nat.lt_of_lt_of_le z0 hb4.size
        replace z1 := Nat.lt_of_lt_of_le z1 hb4.size
        replace z2 := Nat.lt_of_lt_of_le z2 hb4.size
        replace z3 := Nat.lt_of_lt_of_le z3 hb4.size
        replace hB := hB.trans (hb4.mono hB.size)
        clear hb4
        go_wp2_with fail
        all_goals
          go_region
          all_goals
            go_wp2_with fail
            refine bodyPost_ret (res_places (g := w.heap.size + 1 + 1 + 1) (by rfl) (by first | rfl | exact dec_add _ _) ?_ ?_) rfl ⟨rfl, ?_⟩
            · simp [go_sem, c30, c31, z3]
            · simp [go_sem, c30, c31, z3]
            repeat (first | with_reducible exact hB | with_reducible refine Below.drew ?_ | (with_reducible refine Below.alloc ?_ ?_ _; rotate_left 1; focus (simp [go_sem]; omega)) | (with_reducible refine Below.setCell ?_ ?_ _; rotate_left 1; focus (simp <;> omega)))
  · rw [Int.max_eq_right (by omega)]
    rcases Int.lt_or_le l (bx - ax) with hl0 | hl0
    · rw [Int.min_eq_right (by omega)]
      obtain ⟨hs, rfl, rfl⟩ | ⟨hs, rfl, rfl⟩ := hE
      · go_enter Tryz.func135, Tryz.ntmps135
        go_wp2_with fail
        go_quiet (fail)
        go_wp2_with fail
        go_quiet (fail)
        go_wp2_with fail
        try (go_quiet (fail); go_wp2_with fail)
        refine (quotientOf3 (E - ay) (bx - ax) (b_y - ay) _ _ (by simp [drew_size, drewN_size]) (by simp [go_sem, drew_cell, drewN_cell]) (by simp [go_sem, drew_cell, drewN_cell]) (by simp [go_sem, drew_cell, drewN_cell])).mono ?_
        rintro e w1 ⟨rfl, hb1⟩
        have c00 := cell_next hb1 (b := w.heap.size) (o := 0) (by simp [drewN_size] <;> omega) (v := some (.int .i64 (ax))) (by simp [go_sem, drewN_cell])
        have c01 := cell_next hb1 (b := w.heap.size) (o := 1) (by simp [drewN_size] <;> omega) (v := some (.int .i64 (ay))) (by simp [go_sem, drewN_cell])
        have c10 := cell_next hb1 (b := w.heap.size + 1) (o := 0) (by simp [drewN_size] <;> omega) (v := some (.int .i64 (bx))) (by simp [go_sem, drewN_cell])
        have c11 := cell_next hb1 (b := w.heap.size + 1) (o := 1) (by simp [drewN_size] <;> omega) (v := some (.int .i64 (b_y))) (by simp [go_sem, drewN_cell])
        have c30 := cell_next hb1 (b := w.heap.size + 1 + 1 + 1) (o := 0) (by simp [drewN_size] <;> omega) (v := some (.int .i64 (0))) (by simp [go_sem, drewN_cell])
        have c31 := cell_next hb1 (b := w.heap.size + 1 + 1 + 1) (o := 1) (by simp [drewN_size] <;> omega) (v := some (.int .i64 (0))) (by simp [go_sem, drewN_cell])
        have f30 := frozen_next hb1 (b := w.heap.size + 1 + 1 + 1) (o := 0) (by simp [drewN_size] <;> omega) (v := false) (by simp [go_sem])
        have f31 := frozen_next hb1 (b := w.heap.size + 1 + 1 + 1) (o := 1) (by simp [drewN_size] <;> omega) (v := false) (by simp [go_sem])
        have hz1 := hb1.size
        simp [drewN_size] at hz1
        have z0 : w.heap.size < w1.heap.size := by omega
        have z1 : w.heap.size + 1 < w1.heap.size := by omega
        have z2 : w.heap.size + 1 + 1 < w1.heap.size := by omega
        have z3 : w.heap.size + 1 + 1 + 1 < w1.heap.size := by omega
        have hB : Below w.heap.size w w1 := ((below_drewN ((((((Below.refl _ _).alloc (Nat.le_refl _) _).alloc (by simp) _).alloc (by simp; omega) _).alloc (by simp; omega) _)) _).alloc (by simp [drewN_size]; omega) _).trans (hb1.mono (by simp [drewN_size]; omega))
        clear hb1 hz1
        go_wp2_with fail
        refine (c1.out _).mono ?_
        rintro e w2 ⟨rfl, hb2⟩
        replace c00 := cell_next hb2 z0 c00
        replace c01 := cell_next hb2 z0 c01
        replace c10 := cell_next hb2 z1 c10
        replace c11 := cell_next hb2 z1 c11
        replace c30 := cell_next hb2 z3 c30
        replace c31 := cell_next hb2 z3 c31
        replace f30 := frozen_next hb2 z3 f30
        replace f31 := frozen_next hb2 z3 f31
        replace z0 := Nat.lt_of_lt_of_le z0 hb2.size
        replace z1 := Nat.lt_of_lt_of_le z1 hb2.size
        replace z2 := Nat.lt_of_lt_of_le z2 hb2.size
        replace z3 := Nat.lt_of_lt_of_le z3 hb2.size
        replace hB := hB.trans (hb2.mono hB.size)
        clear hb2
        go_wp2_with fail
        refine (quotientOf3 (L - ay) (bx - ax) (b_y - ay) _ _ (by simp [drew_size, drewN_size]) (by simp [go_sem, drew_cell, drewN_cell]) (by simp [go_sem, drew_cell, drewN_cell]) (by simp [go_sem, drew_cell, drewN_cell])).mono ?_
        rintro e w3 ⟨rfl, hb3⟩
        have hb3' := below1 hb3
        replace c00 := cell_next hb3' z0 c00
        replace c01 := cell_next hb3' z0 c01
        replace c10 := cell_next hb3' z1 c10
        replace c11 := cell_next hb3' z1 c11
        replace c30 := cell_next hb3' z3 c30
        replace c31 := cell_next hb3' z3 c31
        replace f30 := frozen_next hb3' z3 f30
        replace f31 := frozen_next hb3' z3 f31
        replace z0 := Nat.lt_of_lt_of_le z0 hb3'.size
        replace z1 := Nat.lt_of_lt_of_le z1 hb3'.size
        replace z2 := Nat.lt_of_lt_of_le z2 hb3'.size
        replace z3 := Nat.lt_of_lt_of_le z3 hb3'.size
        replace hB := hB.trans (hb3'.mono hB.size)
        clear hb3'
        clear hb3
        go_wp2_with fail
        refine (c2.out _).mono ?_
        rintro e w4 ⟨rfl, hb4⟩
        replace c00 := cell_next hb4 z0 c00
        replace c01 := cell_next hb4 z0 c01
        replace c10 := cell_next hb4 z1 c10
        replace c11 := cell_next hb4 z1 c11
        replace c30 := cell_next hb4 z3 c30
        replace c31 := cell_next hb4 z3 c31
        replace f30 := frozen_next hb4 z3 f30
        replace f31 := frozen_next hb4 z3 f31
        replace z0 := Nat.lt_of_lt_of_le z0 hb4.size
        replace z1 := Nat.lt_of_lt_of_le z1 hb4.size
        replace z2 := Nat.lt_of_lt_of_le z2 hb4.size
        replace z3 := Nat.lt_of_lt_of_le z3 hb4.size
        replace hB := hB.trans (hb4.mono hB.size)
        clear hb4
        go_wp2_with fail
        all_goals
          go_region
          all_goals
            go_wp2_with fail
            refine bodyPost_ret (res_places (g := w.heap.size + 1 + 1 + 1) (by rfl) (by first | rfl | exact dec_add _ _) ?_ ?_) rfl ⟨rfl, ?_⟩
            · simp [go_sem, c30, c31, z3]
            · simp [go_sem, c30, c31, z3]
            repeat (first | with_reducible exact hB | with_reducible refine Below.drew ?_ | (with_reducible refine Below.alloc ?_ ?_ _; rotate_left 1; focus (simp [go_sem]; omega)) | (with_reducible refine Below.setCell ?_ ?_ _; rotate_left 1; focus (simp <;> omega)))
      · go_enter Tryz.func135, Tryz.ntmps135
        go_wp2_with fail
        go_quiet (fail)
        go_wp2_with fail
        go_quiet (fail)
        go_wp2_with fail
        try (go_quiet (fail); go_wp2_with fail)
        refine (quotientOf3 (E - ay) (bx - ax) (b_y - ay) _ _ (by simp [drew_size, drewN_size]) (by simp [go_sem, drew_cell, drewN_cell]) (by simp [go_sem, drew_cell, drewN_cell]) (by simp [go_sem, drew_cell, drewN_cell])).mono ?_
        rintro e w1 ⟨rfl, hb1⟩
        have c00 := cell_next hb1 (b := w.heap.size) (o := 0) (by simp [drewN_size] <;> omega) (v := some (.int .i64 (ax))) (by simp [go_sem, drewN_cell])
        have c01 := cell_next hb1 (b := w.heap.size) (o := 1) (by simp [drewN_size] <;> omega) (v := some (.int .i64 (ay))) (by simp [go_sem, drewN_cell])
        have c10 := cell_next hb1 (b := w.heap.size + 1) (o := 0) (by simp [drewN_size] <;> omega) (v := some (.int .i64 (bx))) (by simp [go_sem, drewN_cell])
        have c11 := cell_next hb1 (b := w.heap.size + 1) (o := 1) (by simp [drewN_size] <;> omega) (v := some (.int .i64 (b_y))) (by simp [go_sem, drewN_cell])
        have c30 := cell_next hb1 (b := w.heap.size + 1 + 1 + 1) (o := 0) (by simp [drewN_size] <;> omega) (v := some (.int .i64 (0))) (by simp [go_sem, drewN_cell])
        have c31 := cell_next hb1 (b := w.heap.size + 1 + 1 + 1) (o := 1) (by simp [drewN_size] <;> omega) (v := some (.int .i64 (0))) (by simp [go_sem, drewN_cell])
        have f30 := frozen_next hb1 (b := w.heap.size + 1 + 1 + 1) (o := 0) (by simp [drewN_size] <;> omega) (v := false) (by simp [go_sem])
        have f31 := frozen_next hb1 (b := w.heap.size + 1 + 1 + 1) (o := 1) (by simp [drewN_size] <;> omega) (v := false) (by simp [go_sem])
        have hz1 := hb1.size
        simp [drewN_size] at hz1
        have z0 : w.heap.size < w1.heap.size := by omega
        have z1 : w.heap.size + 1 < w1.heap.size := by omega
        have z2 : w.heap.size + 1 + 1 < w1.heap.size := by omega
        have z3 : w.heap.size + 1 + 1 + 1 < w1.heap.size := by omega
        have hB : Below w.heap.size w w1 := ((below_drewN ((((((Below.refl _ _).alloc (Nat.le_refl _) _).alloc (by simp) _).alloc (by simp; omega) _).alloc (by simp; omega) _)) _).alloc (by simp [drewN_size]; omega) _).trans (hb1.mono (by simp [drewN_size]; omega))
        clear hb1 hz1
        go_wp2_with fail
        refine (c1.out _).mono ?_
        rintro e w2 ⟨rfl, hb2⟩
        replace c00 := cell_next hb2 z0 c00
        replace c01 := cell_next hb2 z0 c01
        replace c10 := cell_next hb2 z1 c10
        replace c11 := cell_next hb2 z1 c11
        replace c30 := cell_next hb2 z3 c30
        replace c31 := cell_next hb2 z3 c31
        replace f30 := frozen_next hb2 z3 f30
        replace f31 := frozen_next hb2 z3 f31
        replace z0 := Nat.lt_of_lt_of_le z0 hb2.size
        replace z1 := Nat.lt_of_lt_of_le z1 hb2.size
        replace z2 := Nat.lt_of_lt_of_le z2 hb2.size
        replace z3 := Nat.lt_of_lt_of_le z3 hb2.size
        replace hB := hB.trans (hb2.mono hB.size)
        clear hb2
        go_wp2_with fail
        refine (quotientOf3 (L - ay) (bx - ax) (b_y - ay) _ _ (by simp [drew_size, drewN_size]) (by simp [go_sem, drew_cell, drewN_cell]) (by simp [go_sem, drew_cell, drewN_cell]) (by simp [go_sem, drew_cell, drewN_cell])).mono ?_
        rintro e w3 ⟨rfl, hb3⟩
        have hb3' := below1 hb3
        replace c00 := cell_next hb3' z0 c00
        replace c01 := cell_next hb3' z0 c01
        replace c10 := cell_next hb3' z1 c10
        replace c11 := cell_next hb3' z1 c11
        replace c30 := cell_next hb3' z3 c30
        replace c31 := cell_next hb3' z3 c31
        replace f30 := frozen_next hb3' z3 f30
        replace f31 := frozen_next hb3' z3 f31
        replace z0 := Nat.lt_of_lt_of_le z0 hb3'.size
        replace z1 := Nat.lt_of_lt_of_le z1 hb3'.size
        replace z2 := Nat.lt_of_lt_of_le z2 hb3'.size
        replace z3 := Nat.lt_of_lt_of_le z3 hb3'.size
        replace hB := hB.trans (hb3'.mono hB.size)
        clear hb3'
        clear hb3
        go_wp2_with fail
        refine (c2.out _).mono ?_
        rintro e w4 ⟨rfl, hb4⟩
        replace c00 := cell_next hb4 z0 c00
        replace c01 := cell_next hb4 z0 c01
        replace c10 := cell_next hb4 z1 c10
        replace c11 := cell_next hb4 z1 c11
        replace c30 := cell_next hb4 z3 c30
        replace c31 := cell_next hb4 z3 c31
        replace f30 := frozen_next hb4 z3 f30
        replace f31 := frozen_next hb4 z3 f31
        replace z0 := Nat.lt_of_lt_of_le z0 hb4.size
        replace z1 := Nat.lt_of_lt_of_le z1 hb4.size
        replace z2 := Nat.lt_of_lt_of_le z2 hb4.size
        replace z3 := Nat.lt_of_lt_of_le z3 hb4.size
        replace hB := hB.trans (hb4.mono hB.size)
        clear hb4
        go_wp2_with fail
        all_goals
          go_region
          all_goals
            go_wp2_with fail
            refine bodyPost_ret (res_places (g := w.heap.size + 1 + 1 + 1) (by rfl) (by first | rfl | exact dec_add _ _) ?_ ?_) rfl ⟨rfl, ?_⟩
            · simp [go_sem, c30, c31, z3]
            · simp [go_sem, c30, c31, z3]
            repeat (first | with_reducible exact hB | with_reducible refine Below.drew ?_ | (with_reducible refine Below.alloc ?_ ?_ _; rotate_left 1; focus (simp [go_sem]; omega)) | (with_reducible refine Below.setCell ?_ ?_ _; rotate_left 1; focus (simp <;> omega)))
    · rw [Int.min_eq_left hl0]
      obtain ⟨hs, rfl, rfl⟩ | ⟨hs, rfl, rfl⟩ := hE
      · go_enter Tryz.func135, Tryz.ntmps135
        go_wp2_with fail
        go_quiet (fail)
        go_wp2_with fail
        go_quiet (fail)
        go_wp2_with fail
        try (go_quiet (fail); go_wp2_with fail)
        refine (quotientOf3 (E - ay) (bx - ax) (b_y - ay) _ _ (by simp [drew_size, drewN_size]) (by simp [go_sem, drew_cell, drewN_cell]) (by simp [go_sem, drew_cell, drewN_cell]) (by simp [go_sem, drew_cell, drewN_cell])).mono ?_
        rintro e w1 ⟨rfl, hb1⟩
        have c00 := cell_next hb1 (b := w.heap.size) (o := 0) (by simp [drewN_size] <;> omega) (v := some (.int .i64 (ax))) (by simp [go_sem, drewN_cell])
        have c01 := cell_next hb1 (b := w.heap.size) (o := 1) (by simp [drewN_size] <;> omega) (v := some (.int .i64 (ay))) (by simp [go_sem, drewN_cell])
        have c10 := cell_next hb1 (b := w.heap.size + 1) (o := 0) (by simp [drewN_size] <;> omega) (v := some (.int .i64 (bx))) (by simp [go_sem, drewN_cell])
        have c11 := cell_next hb1 (b := w.heap.size + 1) (o := 1) (by simp [drewN_size] <;> omega) (v := some (.int .i64 (b_y))) (by simp [go_sem, drewN_cell])
        have c30 := cell_next hb1 (b := w.heap.size + 1 + 1 + 1) (o := 0) (by simp [drewN_size] <;> omega) (v := some (.int .i64 (0))) (by simp [go_sem, drewN_cell])
        have c31 := cell_next hb1 (b := w.heap.size + 1 + 1 + 1) (o := 1) (by simp [drewN_size] <;> omega) (v := some (.int .i64 (0))) (by simp [go_sem, drewN_cell])
        have f30 := frozen_next hb1 (b := w.heap.size + 1 + 1 + 1) (o := 0) (by simp [drewN_size] <;> omega) (v := false) (by simp [go_sem])
        have f31 := frozen_next hb1 (b := w.heap.size + 1 + 1 + 1) (o := 1) (by simp [drewN_size] <;> omega) (v := false) (by simp [go_sem])
        have hz1 := hb1.size
        simp [drewN_size] at hz1
        have z0 : w.heap.size < w1.heap.size := by omega
        have z1 : w.heap.size + 1 < w1.heap.size := by omega
        have z2 : w.heap.size + 1 + 1 < w1.heap.size := by omega
        have z3 : w.heap.size + 1 + 1 + 1 < w1.heap.size := by omega
        have hB : Below w.heap.size w w1 := ((below_drewN ((((((Below.refl _ _).alloc (Nat.le_refl _) _).alloc (by simp) _).alloc (by simp; omega) _).alloc (by simp; omega) _)) _).alloc (by simp [drewN_size]; omega) _).trans (hb1.mono (by simp [drewN_size]; omega))
        clear hb1 hz1
        go_wp2_with fail
        refine (c1.out _).mono ?_
        rintro e w2 ⟨rfl, hb2⟩
        replace c00 := cell_next hb2 z0 c00
        replace c01 := cell_next hb2 z0 c01
        replace c10 := cell_next hb2 z1 c10
        replace c11 := cell_next hb2 z1 c11
        replace c30 := cell_next hb2 z3 c30
        replace c31 := cell_next hb2 z3 c31
        replace f30 := frozen_next hb2 z3 f30
        replace f31 := frozen_next hb2 z3 f31
        replace z0 := Nat.lt_of_lt_of_le z0 hb2.size
        replace z1 := Nat.lt_of_lt_of_le z1 hb2.size
        replace z2 := Nat.lt_of_lt_of_le z2 hb2.size
        replace z3 := Nat.lt_of_lt_of_le z3 hb2.size
        replace hB := hB.trans (hb2.mono hB.size)
        clear hb2
        go_wp2_with fail
        refine (quotientOf3 (L - ay) (bx - ax) (b_y - ay) _ _ (by simp [drew_size, drewN_size]) (by simp [go_sem, drew_cell, drewN_cell]) (by simp [go_sem, drew_cell, drewN_cell]) (by simp [go_sem, drew_cell, drewN_cell])).mono ?_
        rintro e w3 ⟨rfl, hb3⟩
        have hb3' := below1 hb3
        replace c00 := cell_next hb3' z0 c00
        replace c01 := cell_next hb3' z0 c01
        replace c10 := cell_next hb3' z1 c10
        replace c11 := cell_next hb3' z1 c11
        replace c30 := cell_next hb3' z3 c30
        replace c31 := cell_next hb3' z3 c31
        replace f30 := frozen_next hb3' z3 f30
        replace f31 := frozen_next hb3' z3 f31
        replace z0 := Nat.lt_of_lt_of_le z0 hb3'.size
        replace z1 := Nat.lt_of_lt_of_le z1 hb3'.size
        replace z2 := Nat.lt_of_lt_of_le z2 hb3'.size
        replace z3 := Nat.lt_of_lt_of_le z3 hb3'.size
        replace hB := hB.trans (hb3'.mono hB.size)
        clear hb3'
        clear hb3
        go_wp2_with fail
        refine (c2.out _).mono ?_
        rintro e w4 ⟨rfl, hb4⟩
        replace c00 := cell_next hb4 z0 c00
        replace c01 := cell_next hb4 z0 c01
        replace c10 := cell_next hb4 z1 c10
        replace c11 := cell_next hb4 z1 c11
        replace c30 := cell_next hb4 z3 c30
        replace c31 := cell_next hb4 z3 c31
        replace f30 := frozen_next hb4 z3 f30
        replace f31 := frozen_next hb4 z3 f31
        replace z0 := Nat.lt_of_lt_of_le z0 hb4.size
        replace z1 := Nat.lt_of_lt_of_le z1 hb4.size
        replace z2 := Nat.lt_of_lt_of_le z2 hb4.size
        replace z3 := Nat.lt_of_lt_of_le z3 hb4.size
        replace hB := hB.trans (hb4.mono hB.size)
        clear hb4
        go_wp2_with fail
        all_goals
          go_region
          all_goals
            go_wp2_with fail
            refine bodyPost_ret (res_places (g := w.heap.size + 1 + 1 + 1) (by rfl) (by first | rfl | exact dec_add _ _) ?_ ?_) rfl ⟨rfl, ?_⟩
            · simp [go_sem, c30, c31, z3]
            · simp [go_sem, c30, c31, z3]
            repeat (first | with_reducible exact hB | with_reducible refine Below.drew ?_ | (with_reducible refine Below.alloc ?_ ?_ _; rotate_left 1; focus (simp [go_sem]; omega)) | (with_reducible refine Below.setCell ?_ ?_ _; rotate_left 1; focus (simp <;> omega)))
      · go_enter Tryz.func135, Tryz.ntmps135
        go_wp2_with fail
        go_quiet (fail)
        go_wp2_with fail
        go_quiet (fail)
        go_wp2_with fail
        try (go_quiet (fail); go_wp2_with fail)
        refine (quotientOf3 (E - ay) (bx - ax) (b_y - ay) _ _ (by simp [drew_size, drewN_size]) (by simp [go_sem, drew_cell, drewN_cell]) (by simp [go_sem, drew_cell, drewN_cell]) (by simp [go_sem, drew_cell, drewN_cell])).mono ?_
        rintro e w1 ⟨rfl, hb1⟩
        have c00 := cell_next hb1 (b := w.heap.size) (o := 0) (by simp [drewN_size] <;> omega) (v := some (.int .i64 (ax))) (by simp [go_sem, drewN_cell])
        have c01 := cell_next hb1 (b := w.heap.size) (o := 1) (by simp [drewN_size] <;> omega) (v := some (.int .i64 (ay))) (by simp [go_sem, drewN_cell])
        have c10 := cell_next hb1 (b := w.heap.size + 1) (o := 0) (by simp [drewN_size] <;> omega) (v := some (.int .i64 (bx))) (by simp [go_sem, drewN_cell])
        have c11 := cell_next hb1 (b := w.heap.size + 1) (o := 1) (by simp [drewN_size] <;> omega) (v := some (.int .i64 (b_y))) (by simp [go_sem, drewN_cell])
        have c30 := cell_next hb1 (b := w.heap.size + 1 + 1 + 1) (o := 0) (by simp [drewN_size] <;> omega) (v := some (.int .i64 (0))) (by simp [go_sem, drewN_cell])
        have c31 := cell_next hb1 (b := w.heap.size + 1 + 1 + 1) (o := 1) (by simp [drewN_size] <;> omega) (v := some (.int .i64 (0))) (by simp [go_sem, drewN_cell])
        have f30 := frozen_next hb1 (b := w.heap.size + 1 + 1 + 1) (o := 0) (by simp [drewN_size] <;> omega) (v := false) (by simp [go_sem])
        have f31 := frozen_next hb1 (b := w.heap.size + 1 + 1 + 1) (o := 1) (by simp [drewN_size] <;> omega) (v := false) (by simp [go_sem])
        have hz1 := hb1.size
        simp [drewN_size] at hz1
        have z0 : w.heap.size < w1.heap.size := by omega
        have z1 : w.heap.size + 1 < w1.heap.size := by omega
        have z2 : w.heap.size + 1 + 1 < w1.heap.size := by omega
        have z3 : w.heap.size + 1 + 1 + 1 < w1.heap.size := by omega
        have hB : Below w.heap.size w w1 := ((below_drewN ((((((Below.refl _ _).alloc (Nat.le_refl _) _).alloc (by simp) _).alloc (by simp; omega) _).alloc (by simp; omega) _)) _).alloc (by simp [drewN_size]; omega) _).trans (hb1.mono (by simp [drewN_size]; omega))
        clear hb1 hz1
        go_wp2_with fail
        refine (c1.out _).mono ?_
        rintro e w2 ⟨rfl, hb2⟩
        replace c00 := cell_next hb2 z0 c00
        replace c01 := cell_next hb2 z0 c01
        replace c10 := cell_next hb2 z1 c10
        replace c11 := cell_next hb2 z1 c11
        replace c30 := cell_next hb2 z3 c30
        replace c31 := cell_next hb2 z3 c31
        replace f30 := frozen_next hb2 z3 f30
        replace f31 := frozen_next hb2 z3 f31
        replace z0 := Nat.lt_of_lt_of_le z0 hb2.size
        replace z1 := Nat.lt_of_lt_of_le z1 hb2.size
        replace z2 := Nat.lt_of_lt_of_le z2 hb2.size
        replace z3 := Nat.lt_of_lt_of_le z3 hb2.size
        replace hB := hB.trans (hb2.mono hB.size)
        clear hb2
        go_wp2_with fail
        refine (quotientOf3 (L - ay) (bx - ax) (b_y - ay) _ _ (by simp [drew_size, drewN_size]) (by simp [go_sem, drew_cell, drewN_cell]) (by simp [go_sem, drew_cell, drewN_cell]) (by simp [go_sem, drew_cell, drewN_cell])).mono ?_
        rintro e w3 ⟨rfl, hb3⟩
        have hb3' := below1 hb3
        replace c00 := cell_next hb3' z0 c00
        replace c01 := cell_next hb3' z0 c01
        replace c10 := cell_next hb3' z1 c10
        replace c11 := cell_next hb3' z1 c11
        replace c30 := cell_next hb3' z3 c30
        replace c31 := cell_next hb3' z3 c31
        replace f30 := frozen_next hb3' z3 f30
        replace f31 := frozen_next hb3' z3 f31
        replace z0 := Nat.lt_of_lt_of_le z0 hb3'.size
        replace z1 := Nat.lt_of_lt_of_le z1 hb3'.size
        replace z2 := Nat.lt_of_lt_of_le z2 hb3'.size
        replace z3 := Nat.lt_of_lt_of_le z3 hb3'.size
        replace hB := hB.trans (hb3'.mono hB.size)
        clear hb3'
        clear hb3
        go_wp2_with fail
        refine (c2.out _).mono ?_
        rintro e w4 ⟨rfl, hb4⟩
        replace c00 := cell_next hb4 z0 c00
        replace c01 := cell_next hb4 z0 c01
        replace c10 := cell_next hb4 z1 c10
        replace c11 := cell_next hb4 z1 c11
        replace c30 := cell_next hb4 z3 c30
        replace c31 := cell_next hb4 z3 c31
        replace f30 := frozen_next hb4 z3 f30
        replace f31 := frozen_next hb4 z3 f31
        replace z0 := Nat.lt_of_lt_of_le z0 hb4.size
        replace z1 := Nat.lt_of_lt_of_le z1 hb4.size
        replace z2 := Nat.lt_of_lt_of_le z2 hb4.size
        replace z3 := Nat.lt_of_lt_of_le z3 hb4.size
        replace hB := hB.trans (hb4.mono hB.size)
        clear hb4
        go_wp2_with fail
        all_goals
          go_region
          all_goals
            go_wp2_with fail
            refine bodyPost_ret (res_places (g := w.heap.size + 1 + 1 + 1) (by rfl) (by first | rfl | exact dec_add _ _) ?_ ?_) rfl ⟨rfl, ?_⟩
            · simp [go_sem, c30, c31, z3]
            · simp [go_sem, c30, c31, z3]
            repeat (first | with_reducible exact hB | with_reducible refine Below.drew ?_ | (with_reducible refine Below.alloc ?_ ?_ _; rotate_left 1; focus (simp [go_sem]; omega)) | (with_reducible refine Below.setCell ?_ ?_ _; rotate_left 1; focus (simp <;> omega)))
end Go.Proofs.YtgklpbgdimkhaaaGreat

