/- The walk of VatRounds. -/
import Derived.Test.YtbmjkmepjggkfaaJ10
import Derived.Test.YtbmjkmepjggkfaaU25
namespace Go.Proofs.Ytbmjkmepjggkfaa
open Go.RowKit Go.Lib Go.Shelf
set_option linter.unusedVariables false
set_option linter.unusedSimpArgs false
attribute [local go_sem ↓] Go.wp_at_zero Go.wp_at_succ

theorem rdV_form (a s t p R : Int) : ∃ x1 x2 y1 y2 e : Int, rdV a s t p R = .tuple #[.agg #[.int .i64 x1, .int .i64 x2], .agg #[.int .i64 y1, .int .i64 y2], .int .i64 e] := by
  unfold rdV
  by_cases h : rdE a s t p R = 0
  · rw [if_pos h]; exact ⟨_, _, _, _, _, rfl⟩
  · rw [if_neg h]; exact ⟨_, _, _, _, _, rfl⟩
set_option maxHeartbeats 1000000 in
theorem squeeze_any (a s t p : Int) (w : World) : Calls Try.prog 17 #[.agg #[.int .i64 a, .int .i64 s], .int .i64 t, .int .i64 p] w fun e w' => e = .returned (rdV a s t p 1) ∧ Below w.heap.size w w' := by
  have c1 := Lib.hid (rounds_any a s t p 1)
  obtain ⟨x1, x2, y1, y2, er, hV⟩ := rdV_form a s t p 1
  rw [hV] at c1 ⊢
  clear hV
  go_enter Try.func17, Try.ntmps17
  go_wp2_with fail
  refine (c1.out _).mono ?_
  rintro e w1 ⟨rfl, hb⟩
  have x0 := cell_next hb (b := w.heap.size + 1) (o := 0) (by simp) (v := some (.int .i64 0)) (by simp [go_sem])
  have x1' := cell_next hb (b := w.heap.size + 1) (o := 1) (by simp) (v := some (.int .i64 0)) (by simp [go_sem])
  have y0 := cell_next hb (b := w.heap.size + 1 + 1) (o := 0) (by simp) (v := some (.int .i64 0)) (by simp [go_sem])
  have y1' := cell_next hb (b := w.heap.size + 1 + 1) (o := 1) (by simp) (v := some (.int .i64 0)) (by simp [go_sem])
  have f0 := frozen_next hb (b := w.heap.size + 1) (o := 0) (by simp) (v := false) (by simp [go_sem])
  have f1 := frozen_next hb (b := w.heap.size + 1) (o := 1) (by simp) (v := false) (by simp [go_sem])
  have g0 := frozen_next hb (b := w.heap.size + 1 + 1) (o := 0) (by simp) (v := false) (by simp [go_sem])
  have g1 := frozen_next hb (b := w.heap.size + 1 + 1) (o := 1) (by simp) (v := false) (by simp [go_sem])
  have hB := below3 hb
  clear hb
  go_wp2_with fail
  refine bodyPost_ret (v := .tuple #[.agg #[.int .i64 x1, .int .i64 x2], .agg #[.int .i64 y1, .int .i64 y2], .int .i64 er]) (by simp [results, Try.results17, go_sem, *]) rfl ⟨rfl, ?_⟩
  exact (((hB.setCell (by simp <;> omega) _).setCell (by simp <;> omega) _).setCell (by simp <;> omega) _).setCell (by simp <;> omega) _

set_option maxRecDepth 20000 in
set_option maxHeartbeats 4000000 in
theorem vatRounds_true (a s x y z : Int) (w : World) : Calls Try.prog 4 #[.agg #[.int .i64 a, .int .i64 s], .agg #[.int .i64 x, .int .i64 y, .int .i64 z]] w fun e w' => e = .returned (.bool true) ∧ Below w.heap.size w w' := by
  have c1 := Lib.hid (squeeze_any a s x y)
  have c2 := Lib.hid (rRounds_any a s x y 1)
  have c3 := Lib.hid (rounds_any a s x y z)
  have c4 := Lib.hid (rRounds_any a s x y z)
  obtain ⟨p1, p2, p3, p4, p5, hV⟩ := rdV_form a s x y 1
  obtain ⟨q1, q2, q3, q4, q5, hW⟩ := rdV_form a s x y z
  rw [hV] at c1 c2
  rw [hW] at c3 c4
  have CK := Lib.hid known_any
  clear hV hW
  go_enter Try.func4, Try.ntmps4
  go_wp2_with fail
  refine (c1.out _).mono ?_
  rintro e w1 ⟨rfl, hb⟩
  have s0 := cell_next hb (b := w.heap.size) (o := 0) (by simp <;> omega) (v := some (.int .i64 a)) (by simp [go_sem])
  have s1 := cell_next hb (b := w.heap.size) (o := 1) (by simp <;> omega) (v := some (.int .i64 s)) (by simp [go_sem])
  have z0 := cell_next hb (b := w.heap.size + 1) (o := 0) (by simp <;> omega) (v := some (.int .i64 x)) (by simp [go_sem])
  have z1 := cell_next hb (b := w.heap.size + 1) (o := 1) (by simp <;> omega) (v := some (.int .i64 y)) (by simp [go_sem])
  have z2 := cell_next hb (b := w.heap.size + 1) (o := 2) (by simp <;> omega) (v := some (.int .i64 z)) (by simp [go_sem])
  have nz : w.heap.size + 1 < w1.heap.size := by have := hb.size; simp at this; omega
  have n0 : w.heap.size < w1.heap.size := by omega
  have hB := below2 hb
  clear hb c1
  go_wp2_with fail
  refine (c2.out _).mono ?_
  rintro e w2 ⟨rfl, hb⟩
  have hb' := below2 hb
  replace s0 := cell_next hb' (by omega) s0
  replace s1 := cell_next hb' (by omega) s1
  replace z0 := cell_next hb' (by omega) z0
  replace z1 := cell_next hb' (by omega) z1
  replace z2 := cell_next hb' (by omega) z2
  have A0 := cell_next hb (b := w1.heap.size) (o := 0) (by simp <;> omega) (v := some (.int .i64 p1)) (by simp [go_sem])
  have Af0 := frozen_next hb (b := w1.heap.size) (o := 0) (by simp <;> omega) (v := false) (by simp [go_sem])
  have A1 := cell_next hb (b := w1.heap.size) (o := 1) (by simp <;> omega) (v := some (.int .i64 p2)) (by simp [go_sem])
  have Af1 := frozen_next hb (b := w1.heap.size) (o := 1) (by simp <;> omega) (v := false) (by simp [go_sem])
  have B0 := cell_next hb (b := w1.heap.size + 1) (o := 0) (by simp <;> omega) (v := some (.int .i64 p3)) (by simp [go_sem])
  have Bf0 := frozen_next hb (b := w1.heap.size + 1) (o := 0) (by simp <;> omega) (v := false) (by simp [go_sem])
  have B1 := cell_next hb (b := w1.heap.size + 1) (o := 1) (by simp <;> omega) (v := some (.int .i64 p4)) (by simp [go_sem])
  have Bf1 := frozen_next hb (b := w1.heap.size + 1) (o := 1) (by simp <;> omega) (v := false) (by simp [go_sem])
  have n5 : w1.heap.size + 1 < w2.heap.size := by have := hb.size; simp at this; omega
  replace hB := hB.trans (hb'.mono hB.size)
  have hk5 := hb'.size
  have n0' : w.heap.size < w2.heap.size := by omega
  have nz' : w.heap.size + 1 < w2.heap.size := by omega
  have n5' : w1.heap.size < w2.heap.size := by omega
  clear hb hb' c2 hk5
  obtain ⟨g5, hg5⟩ : ∃ g, w1.heap.size = g := ⟨_, rfl⟩
  simp only [hg5] at *
  clear hg5
  go_wp2_with fail
  refine (c3.out _).mono ?_
  rintro e w3 ⟨rfl, hb⟩
  have hb' := below2 hb
  replace s0 := cell_next hb' (by omega) s0
  replace s1 := cell_next hb' (by omega) s1
  replace z0 := cell_next hb' (by omega) z0
  replace z1 := cell_next hb' (by omega) z1
  replace z2 := cell_next hb' (by omega) z2
  replace A0 := cell_next hb' (by omega) A0
  replace Af0 := frozen_next hb' (by omega) Af0
  replace A1 := cell_next hb' (by omega) A1
  replace Af1 := frozen_next hb' (by omega) Af1
  replace B0 := cell_next hb' (by omega) B0
  replace Bf0 := frozen_next hb' (by omega) Bf0
  replace B1 := cell_next hb' (by omega) B1
  replace Bf1 := frozen_next hb' (by omega) Bf1
  have C0 := cell_next hb (b := w2.heap.size) (o := 0) (by simp <;> omega) (v := some (.int .i64 p1)) (by simp [go_sem])
  have Cf0 := frozen_next hb (b := w2.heap.size) (o := 0) (by simp <;> omega) (v := false) (by simp [go_sem])
  have C1 := cell_next hb (b := w2.heap.size) (o := 1) (by simp <;> omega) (v := some (.int .i64 p2)) (by simp [go_sem])
  have Cf1 := frozen_next hb (b := w2.heap.size) (o := 1) (by simp <;> omega) (v := false) (by simp [go_sem])
  have D0 := cell_next hb (b := w2.heap.size + 1) (o := 0) (by simp <;> omega) (v := some (.int .i64 p3)) (by simp [go_sem])
  have Df0 := frozen_next hb (b := w2.heap.size + 1) (o := 0) (by simp <;> omega) (v := false) (by simp [go_sem])
  have D1 := cell_next hb (b := w2.heap.size + 1) (o := 1) (by simp <;> omega) (v := some (.int .i64 p4)) (by simp [go_sem])
  have Df1 := frozen_next hb (b := w2.heap.size + 1) (o := 1) (by simp <;> omega) (v := false) (by simp [go_sem])
  have n8 : w2.heap.size + 1 < w3.heap.size := by have := hb.size; simp at this; omega
  replace hB := hB.trans (hb'.mono hB.size)
  have hk5 := hb'.size
  have n0'' : w.heap.size < w3.heap.size := by omega
  have nz'' : w.heap.size + 1 < w3.heap.size := by omega
  have n5'' : g5 < w3.heap.size := by omega
  have n6'' : g5 + 1 < w3.heap.size := by omega
  have n8' : w2.heap.size < w3.heap.size := by omega
  clear hb hb' c3 hk5
  obtain ⟨g8, hg8⟩ : ∃ g, w2.heap.size = g := ⟨_, rfl⟩
  simp only [hg8] at *
  clear hg8
  go_upto_region 6 with fail
  replace s0 : ((((w3.setCell ⟨g5, 0, none⟩ (.int .i64 q1)).setCell ⟨g5, 1, none⟩ (.int .i64 q2)).setCell ⟨g5 + 1, 0, none⟩ (.int .i64 q3)).setCell ⟨g5 + 1, 1, none⟩ (.int .i64 q4)).cell? ⟨w.heap.size, 0, none⟩ = some (.int .i64 a) := ((World.cell?_setCell_other _ _ _ _ (by intro e; injection e with e1 e2; omega)).trans ((World.cell?_setCell_other _ _ _ _ (by intro e; injection e with e1 e2; omega)).trans ((World.cell?_setCell_other _ _ _ _ (by intro e; injection e with e1 e2; omega)).trans ((World.cell?_setCell_other _ _ _ _ (by intro e; injection e with e1 e2; omega)).trans s0))))
  replace s1 : ((((w3.setCell ⟨g5, 0, none⟩ (.int .i64 q1)).setCell ⟨g5, 1, none⟩ (.int .i64 q2)).setCell ⟨g5 + 1, 0, none⟩ (.int .i64 q3)).setCell ⟨g5 + 1, 1, none⟩ (.int .i64 q4)).cell? ⟨w.heap.size, 1, none⟩ = some (.int .i64 s) := ((World.cell?_setCell_other _ _ _ _ (by intro e; injection e with e1 e2; omega)).trans ((World.cell?_setCell_other _ _ _ _ (by intro e; injection e with e1 e2; omega)).trans ((World.cell?_setCell_other _ _ _ _ (by intro e; injection e with e1 e2; omega)).trans ((World.cell?_setCell_other _ _ _ _ (by intro e; injection e with e1 e2; omega)).trans s1))))
  replace z0 : ((((w3.setCell ⟨g5, 0, none⟩ (.int .i64 q1)).setCell ⟨g5, 1, none⟩ (.int .i64 q2)).setCell ⟨g5 + 1, 0, none⟩ (.int .i64 q3)).setCell ⟨g5 + 1, 1, none⟩ (.int .i64 q4)).cell? ⟨w.heap.size + 1, 0, none⟩ = some (.int .i64 x) := ((World.cell?_setCell_other _ _ _ _ (by intro e; injection e with e1 e2; omega)).trans ((World.cell?_setCell_other _ _ _ _ (by intro e; injection e with e1 e2; omega)).trans ((World.cell?_setCell_other _ _ _ _ (by intro e; injection e with e1 e2; omega)).trans ((World.cell?_setCell_other _ _ _ _ (by intro e; injection e with e1 e2; omega)).trans z0))))
  replace z1 : ((((w3.setCell ⟨g5, 0, none⟩ (.int .i64 q1)).setCell ⟨g5, 1, none⟩ (.int .i64 q2)).setCell ⟨g5 + 1, 0, none⟩ (.int .i64 q3)).setCell ⟨g5 + 1, 1, none⟩ (.int .i64 q4)).cell? ⟨w.heap.size + 1, 1, none⟩ = some (.int .i64 y) := ((World.cell?_setCell_other _ _ _ _ (by intro e; injection e with e1 e2; omega)).trans ((World.cell?_setCell_other _ _ _ _ (by intro e; injection e with e1 e2; omega)).trans ((World.cell?_setCell_other _ _ _ _ (by intro e; injection e with e1 e2; omega)).trans ((World.cell?_setCell_other _ _ _ _ (by intro e; injection e with e1 e2; omega)).trans z1))))
  replace z2 : ((((w3.setCell ⟨g5, 0, none⟩ (.int .i64 q1)).setCell ⟨g5, 1, none⟩ (.int .i64 q2)).setCell ⟨g5 + 1, 0, none⟩ (.int .i64 q3)).setCell ⟨g5 + 1, 1, none⟩ (.int .i64 q4)).cell? ⟨w.heap.size + 1, 2, none⟩ = some (.int .i64 z) := ((World.cell?_setCell_other _ _ _ _ (by intro e; injection e with e1 e2; omega)).trans ((World.cell?_setCell_other _ _ _ _ (by intro e; injection e with e1 e2; omega)).trans ((World.cell?_setCell_other _ _ _ _ (by intro e; injection e with e1 e2; omega)).trans ((World.cell?_setCell_other _ _ _ _ (by intro e; injection e with e1 e2; omega)).trans z2))))
  replace C0 : ((((w3.setCell ⟨g5, 0, none⟩ (.int .i64 q1)).setCell ⟨g5, 1, none⟩ (.int .i64 q2)).setCell ⟨g5 + 1, 0, none⟩ (.int .i64 q3)).setCell ⟨g5 + 1, 1, none⟩ (.int .i64 q4)).cell? ⟨g8, 0, none⟩ = some (.int .i64 p1) := ((World.cell?_setCell_other _ _ _ _ (by intro e; injection e with e1 e2; omega)).trans ((World.cell?_setCell_other _ _ _ _ (by intro e; injection e with e1 e2; omega)).trans ((World.cell?_setCell_other _ _ _ _ (by intro e; injection e with e1 e2; omega)).trans ((World.cell?_setCell_other _ _ _ _ (by intro e; injection e with e1 e2; omega)).trans C0))))
  replace C1 : ((((w3.setCell ⟨g5, 0, none⟩ (.int .i64 q1)).setCell ⟨g5, 1, none⟩ (.int .i64 q2)).setCell ⟨g5 + 1, 0, none⟩ (.int .i64 q3)).setCell ⟨g5 + 1, 1, none⟩ (.int .i64 q4)).cell? ⟨g8, 1, none⟩ = some (.int .i64 p2) := ((World.cell?_setCell_other _ _ _ _ (by intro e; injection e with e1 e2; omega)).trans ((World.cell?_setCell_other _ _ _ _ (by intro e; injection e with e1 e2; omega)).trans ((World.cell?_setCell_other _ _ _ _ (by intro e; injection e with e1 e2; omega)).trans ((World.cell?_setCell_other _ _ _ _ (by intro e; injection e with e1 e2; omega)).trans C1))))
  replace D0 : ((((w3.setCell ⟨g5, 0, none⟩ (.int .i64 q1)).setCell ⟨g5, 1, none⟩ (.int .i64 q2)).setCell ⟨g5 + 1, 0, none⟩ (.int .i64 q3)).setCell ⟨g5 + 1, 1, none⟩ (.int .i64 q4)).cell? ⟨g8 + 1, 0, none⟩ = some (.int .i64 p3) := ((World.cell?_setCell_other _ _ _ _ (by intro e; injection e with e1 e2; omega)).trans ((World.cell?_setCell_other _ _ _ _ (by intro e; injection e with e1 e2; omega)).trans ((World.cell?_setCell_other _ _ _ _ (by intro e; injection e with e1 e2; omega)).trans ((World.cell?_setCell_other _ _ _ _ (by intro e; injection e with e1 e2; omega)).trans D0))))
  replace D1 : ((((w3.setCell ⟨g5, 0, none⟩ (.int .i64 q1)).setCell ⟨g5, 1, none⟩ (.int .i64 q2)).setCell ⟨g5 + 1, 0, none⟩ (.int .i64 q3)).setCell ⟨g5 + 1, 1, none⟩ (.int .i64 q4)).cell? ⟨g8 + 1, 1, none⟩ = some (.int .i64 p4) := ((World.cell?_setCell_other _ _ _ _ (by intro e; injection e with e1 e2; omega)).trans ((World.cell?_setCell_other _ _ _ _ (by intro e; injection e with e1 e2; omega)).trans ((World.cell?_setCell_other _ _ _ _ (by intro e; injection e with e1 e2; omega)).trans ((World.cell?_setCell_other _ _ _ _ (by intro e; injection e with e1 e2; omega)).trans D1))))
  replace A0 : ((((w3.setCell ⟨g5, 0, none⟩ (.int .i64 q1)).setCell ⟨g5, 1, none⟩ (.int .i64 q2)).setCell ⟨g5 + 1, 0, none⟩ (.int .i64 q3)).setCell ⟨g5 + 1, 1, none⟩ (.int .i64 q4)).cell? ⟨g5, 0, none⟩ = some (.int .i64 q1) := by simp [go_sem, A0]
  replace A1 : ((((w3.setCell ⟨g5, 0, none⟩ (.int .i64 q1)).setCell ⟨g5, 1, none⟩ (.int .i64 q2)).setCell ⟨g5 + 1, 0, none⟩ (.int .i64 q3)).setCell ⟨g5 + 1, 1, none⟩ (.int .i64 q4)).cell? ⟨g5, 1, none⟩ = some (.int .i64 q2) := by simp [go_sem, A1]
  replace B0 : ((((w3.setCell ⟨g5, 0, none⟩ (.int .i64 q1)).setCell ⟨g5, 1, none⟩ (.int .i64 q2)).setCell ⟨g5 + 1, 0, none⟩ (.int .i64 q3)).setCell ⟨g5 + 1, 1, none⟩ (.int .i64 q4)).cell? ⟨g5 + 1, 0, none⟩ = some (.int .i64 q3) := by simp [go_sem, B0]
  replace B1 : ((((w3.setCell ⟨g5, 0, none⟩ (.int .i64 q1)).setCell ⟨g5, 1, none⟩ (.int .i64 q2)).setCell ⟨g5 + 1, 0, none⟩ (.int .i64 q3)).setCell ⟨g5 + 1, 1, none⟩ (.int .i64 q4)).cell? ⟨g5 + 1, 1, none⟩ = some (.int .i64 q4) := by simp [go_sem, B1]
  replace Cf0 : ((((w3.setCell ⟨g5, 0, none⟩ (.int .i64 q1)).setCell ⟨g5, 1, none⟩ (.int .i64 q2)).setCell ⟨g5 + 1, 0, none⟩ (.int .i64 q3)).setCell ⟨g5 + 1, 1, none⟩ (.int .i64 q4)).frozen? ⟨g8, 0, none⟩ = false := by simp [go_sem, Cf0]
  replace Cf1 : ((((w3.setCell ⟨g5, 0, none⟩ (.int .i64 q1)).setCell ⟨g5, 1, none⟩ (.int .i64 q2)).setCell ⟨g5 + 1, 0, none⟩ (.int .i64 q3)).setCell ⟨g5 + 1, 1, none⟩ (.int .i64 q4)).frozen? ⟨g8, 1, none⟩ = false := by simp [go_sem, Cf1]
  replace Df0 : ((((w3.setCell ⟨g5, 0, none⟩ (.int .i64 q1)).setCell ⟨g5, 1, none⟩ (.int .i64 q2)).setCell ⟨g5 + 1, 0, none⟩ (.int .i64 q3)).setCell ⟨g5 + 1, 1, none⟩ (.int .i64 q4)).frozen? ⟨g8 + 1, 0, none⟩ = false := by simp [go_sem, Df0]
  replace Df1 : ((((w3.setCell ⟨g5, 0, none⟩ (.int .i64 q1)).setCell ⟨g5, 1, none⟩ (.int .i64 q2)).setCell ⟨g5 + 1, 0, none⟩ (.int .i64 q3)).setCell ⟨g5 + 1, 1, none⟩ (.int .i64 q4)).frozen? ⟨g8 + 1, 1, none⟩ = false := by simp [go_sem, Df1]
  have hZ : ((((w3.setCell ⟨g5, 0, none⟩ (.int .i64 q1)).setCell ⟨g5, 1, none⟩ (.int .i64 q2)).setCell ⟨g5 + 1, 0, none⟩ (.int .i64 q3)).setCell ⟨g5 + 1, 1, none⟩ (.int .i64 q4)).heap.size = w3.heap.size := by simp [World.setCell]
  replace hB : Below w.heap.size w ((((w3.setCell ⟨g5, 0, none⟩ (.int .i64 q1)).setCell ⟨g5, 1, none⟩ (.int .i64 q2)).setCell ⟨g5 + 1, 0, none⟩ (.int .i64 q3)).setCell ⟨g5 + 1, 1, none⟩ (.int .i64 q4)) := (((hB.setCell (p := ⟨g5, 0, none⟩) (by show w.heap.size ≤ g5; omega) _).setCell (p := ⟨g5, 1, none⟩) (by show w.heap.size ≤ g5; omega) _).setCell (p := ⟨g5 + 1, 0, none⟩) (by show w.heap.size ≤ g5 + 1; omega) _).setCell (p := ⟨g5 + 1, 1, none⟩) (by show w.heap.size ≤ g5 + 1; omega) _
  generalize ((((w3.setCell ⟨g5, 0, none⟩ (.int .i64 q1)).setCell ⟨g5, 1, none⟩ (.int .i64 q2)).setCell ⟨g5 + 1, 0, none⟩ (.int .i64 q3)).setCell ⟨g5 + 1, 1, none⟩ (.int .i64 q4)) = Z at *
  rw [← hZ] at n0'' nz'' n5'' n6'' n8 n8'
  clear hZ Af0 Af1 Bf0 Bf1
  go_wp2_with fail
  refine (c4.out _).mono ?_
  rintro e w4 ⟨rfl, hb⟩
  replace s0 := cell_next hb (by omega) s0
  replace s1 := cell_next hb (by omega) s1
  replace z0 := cell_next hb (by omega) z0
  replace z1 := cell_next hb (by omega) z1
  replace z2 := cell_next hb (by omega) z2
  replace A0 := cell_next hb (by omega) A0
  replace A1 := cell_next hb (by omega) A1
  replace B0 := cell_next hb (by omega) B0
  replace B1 := cell_next hb (by omega) B1
  replace C0 := cell_next hb (by omega) C0
  replace C1 := cell_next hb (by omega) C1
  replace D0 := cell_next hb (by omega) D0
  replace D1 := cell_next hb (by omega) D1
  replace Cf0 := frozen_next hb (by omega) Cf0
  replace Cf1 := frozen_next hb (by omega) Cf1
  replace Df0 := frozen_next hb (by omega) Df0
  replace Df1 := frozen_next hb (by omega) Df1
  have hzz := hb.size
  have m1 : g5 < w4.heap.size := by omega
  have m2 : g5 + 1 < w4.heap.size := by omega
  have m3 : g8 < w4.heap.size := by omega
  have m4 : g8 + 1 < w4.heap.size := by omega
  replace hB := hB.trans (hb.mono hB.size)
  clear hb c4 hzz s0 s1 z0 z1 z2
  have r1 : g5 ≠ g8 := by omega
  have r2 : g5 + 1 ≠ g8 := by omega
  have r3 : g5 ≠ g8 + 1 := by omega
  go_wp2_with fail
  have hX := (((hB.setCell (p := ⟨g8, 0, none⟩) (by show w.heap.size ≤ g8; omega) (.int .i64 q1)).setCell (p := ⟨g8, 1, none⟩) (by show w.heap.size ≤ g8; omega) (.int .i64 q2)).setCell (p := ⟨g8 + 1, 0, none⟩) (by show w.heap.size ≤ g8 + 1; omega) (.int .i64 q3)).setCell (p := ⟨g8 + 1, 1, none⟩) (by show w.heap.size ≤ g8 + 1; omega) (.int .i64 q4)
  refine (CK.out _).mono ?_
  rintro e w5 ⟨rfl, hb⟩
  have hBe := hX.trans (hb.mono hX.size)
  clear hb hX CK
  go_wp2_with fail
  go_ret
  exact ⟨by simp, hBe⟩
end Go.Proofs.Ytbmjkmepjggkfaa
