/- The walk of the statement on parts, products and quotients. -/
import Derived.Test.YtgakniehfnegiaaR7
import Derived.Test.YtgakniehfnegiaaK2
namespace Go.Proofs.Ytgakniehfnegiaa
open Go.RowKit Go.Lib Go.Shelf
set_option linter.unusedVariables false
set_option linter.unusedSimpArgs false
attribute [local go_sem ↓] Go.wp_at_zero Go.wp_at_succ

set_option maxRecDepth 40000 in
set_option maxHeartbeats 6000000 in
theorem scales_walk (a1 a2 b1 b2 n d : Int) (w : World) :
    Calls Try.prog 4 #[.agg #[.int .i64 a1, .int .i64 a2], .agg #[.int .i64 b1, .int .i64 b2], .agg #[.int .i64 n, .int .i64 d]] w fun e w' => e = .returned (.bool true) ∧ Below w.heap.size w w' := by
  have c1 := Lib.hid (scale_any a1 a2 n d)
  have c2 := Lib.hid (rScale_any a1 a2 n d)
  have c3 := Lib.hid (times_any a1 a2 b1 b2)
  have c4 := Lib.hid (rTimes_any a1 a2 b1 b2)
  have c5 := Lib.hid (over_any a1 a2 b1 b2)
  have c6 := Lib.hid (rOver_any a1 a2 b1 b2)
  generalize scL a1 a2 n d = sl at *
  generalize scH a1 a2 n d = sh at *
  generalize scE a1 a2 n d = se at *
  generalize tmL a1 a2 b1 b2 = tl at *
  generalize tmH a1 a2 b1 b2 = th at *
  generalize tmE a1 a2 b1 b2 = te at *
  generalize ovL a1 a2 b1 b2 = ol at *
  generalize ovH a1 a2 b1 b2 = oh at *
  generalize ovE a1 a2 b1 b2 = oe at *
  go_enter Try.func4, Try.ntmps4
  go_wp2_with fail
  refine (c1.out _).mono ?_
  rintro e W1 ⟨rfl, hb⟩
  have A0 := cell_next hb (b := w.heap.size) (o := 0) (by simp <;> omega) (v := some (.int .i64 a1)) (by simp [go_sem])
  have A1 := cell_next hb (b := w.heap.size) (o := 1) (by simp <;> omega) (v := some (.int .i64 a2)) (by simp [go_sem])
  have nA : w.heap.size < W1.heap.size := by have := hb.size; simp at this; omega
  have B0 := cell_next hb (b := w.heap.size + 1) (o := 0) (by simp <;> omega) (v := some (.int .i64 b1)) (by simp [go_sem])
  have B1 := cell_next hb (b := w.heap.size + 1) (o := 1) (by simp <;> omega) (v := some (.int .i64 b2)) (by simp [go_sem])
  have nB : w.heap.size + 1 < W1.heap.size := by have := hb.size; simp at this; omega
  have Y0 := cell_next hb (b := w.heap.size + 1 + 1) (o := 0) (by simp <;> omega) (v := some (.int .i64 n)) (by simp [go_sem])
  have Y1 := cell_next hb (b := w.heap.size + 1 + 1) (o := 1) (by simp <;> omega) (v := some (.int .i64 d)) (by simp [go_sem])
  have nY : w.heap.size + 1 + 1 < W1.heap.size := by have := hb.size; simp at this; omega
  have hB := (below3 hb)
  clear hb
  go_wp2_with fail
  refine (c2.out _).mono ?_
  rintro e W2 ⟨rfl, hb⟩
  replace A0 := cell_next (below1 hb) nA A0
  replace A1 := cell_next (below1 hb) nA A1
  replace nA := Nat.lt_of_lt_of_le nA (below1 hb).size
  replace B0 := cell_next (below1 hb) nB B0
  replace B1 := cell_next (below1 hb) nB B1
  replace nB := Nat.lt_of_lt_of_le nB (below1 hb).size
  replace Y0 := cell_next (below1 hb) nY Y0
  replace Y1 := cell_next (below1 hb) nY Y1
  replace nY := Nat.lt_of_lt_of_le nY (below1 hb).size
  have s0 := cell_next hb (b := W1.heap.size) (o := 0) (by simp <;> omega) (v := some (.int .i64 sl)) (by simp [go_sem])
  have s1 := cell_next hb (b := W1.heap.size) (o := 1) (by simp <;> omega) (v := some (.int .i64 sh)) (by simp [go_sem])
  have ns : W1.heap.size < W2.heap.size := by have := hb.size; simp at this; omega
  replace hB := hB.trans ((below1 hb).mono hB.size)
  clear hb
  generalize W1.heap.size = q2 at *
  go_wp2_with fail
  refine (c3.out _).mono ?_
  rintro e W3 ⟨rfl, hb⟩
  replace A0 := cell_next (below1 hb) nA A0
  replace A1 := cell_next (below1 hb) nA A1
  replace nA := Nat.lt_of_lt_of_le nA (below1 hb).size
  replace B0 := cell_next (below1 hb) nB B0
  replace B1 := cell_next (below1 hb) nB B1
  replace nB := Nat.lt_of_lt_of_le nB (below1 hb).size
  replace Y0 := cell_next (below1 hb) nY Y0
  replace Y1 := cell_next (below1 hb) nY Y1
  replace nY := Nat.lt_of_lt_of_le nY (below1 hb).size
  replace s0 := cell_next (below1 hb) ns s0
  replace s1 := cell_next (below1 hb) ns s1
  replace ns := Nat.lt_of_lt_of_le ns (below1 hb).size
  have x0 := cell_next hb (b := W2.heap.size) (o := 0) (by simp <;> omega) (v := some (.int .i64 sl)) (by simp [go_sem])
  have x1 := cell_next hb (b := W2.heap.size) (o := 1) (by simp <;> omega) (v := some (.int .i64 sh)) (by simp [go_sem])
  have nx : W2.heap.size < W3.heap.size := by have := hb.size; simp at this; omega
  replace hB := hB.trans ((below1 hb).mono hB.size)
  clear hb
  generalize W2.heap.size = q3 at *
  go_wp2_with fail
  refine (c4.out _).mono ?_
  rintro e W4 ⟨rfl, hb⟩
  replace A0 := cell_next (below1 hb) nA A0
  replace A1 := cell_next (below1 hb) nA A1
  replace nA := Nat.lt_of_lt_of_le nA (below1 hb).size
  replace B0 := cell_next (below1 hb) nB B0
  replace B1 := cell_next (below1 hb) nB B1
  replace nB := Nat.lt_of_lt_of_le nB (below1 hb).size
  replace Y0 := cell_next (below1 hb) nY Y0
  replace Y1 := cell_next (below1 hb) nY Y1
  replace nY := Nat.lt_of_lt_of_le nY (below1 hb).size
  replace s0 := cell_next (below1 hb) ns s0
  replace s1 := cell_next (below1 hb) ns s1
  replace ns := Nat.lt_of_lt_of_le ns (below1 hb).size
  replace x0 := cell_next (below1 hb) nx x0
  replace x1 := cell_next (below1 hb) nx x1
  replace nx := Nat.lt_of_lt_of_le nx (below1 hb).size
  have t0 := cell_next hb (b := W3.heap.size) (o := 0) (by simp <;> omega) (v := some (.int .i64 tl)) (by simp [go_sem])
  have t1 := cell_next hb (b := W3.heap.size) (o := 1) (by simp <;> omega) (v := some (.int .i64 th)) (by simp [go_sem])
  have nt : W3.heap.size < W4.heap.size := by have := hb.size; simp at this; omega
  replace hB := hB.trans ((below1 hb).mono hB.size)
  clear hb
  generalize W3.heap.size = q4 at *
  go_wp2_with fail
  refine (c5.out _).mono ?_
  rintro e W5 ⟨rfl, hb⟩
  replace A0 := cell_next (below1 hb) nA A0
  replace A1 := cell_next (below1 hb) nA A1
  replace nA := Nat.lt_of_lt_of_le nA (below1 hb).size
  replace B0 := cell_next (below1 hb) nB B0
  replace B1 := cell_next (below1 hb) nB B1
  replace nB := Nat.lt_of_lt_of_le nB (below1 hb).size
  replace Y0 := cell_next (below1 hb) nY Y0
  replace Y1 := cell_next (below1 hb) nY Y1
  replace nY := Nat.lt_of_lt_of_le nY (below1 hb).size
  replace s0 := cell_next (below1 hb) ns s0
  replace s1 := cell_next (below1 hb) ns s1
  replace ns := Nat.lt_of_lt_of_le ns (below1 hb).size
  replace x0 := cell_next (below1 hb) nx x0
  replace x1 := cell_next (below1 hb) nx x1
  replace nx := Nat.lt_of_lt_of_le nx (below1 hb).size
  replace t0 := cell_next (below1 hb) nt t0
  replace t1 := cell_next (below1 hb) nt t1
  replace nt := Nat.lt_of_lt_of_le nt (below1 hb).size
  have y0 := cell_next hb (b := W4.heap.size) (o := 0) (by simp <;> omega) (v := some (.int .i64 tl)) (by simp [go_sem])
  have y1 := cell_next hb (b := W4.heap.size) (o := 1) (by simp <;> omega) (v := some (.int .i64 th)) (by simp [go_sem])
  have ny : W4.heap.size < W5.heap.size := by have := hb.size; simp at this; omega
  replace hB := hB.trans ((below1 hb).mono hB.size)
  clear hb
  generalize W4.heap.size = q5 at *
  go_wp2_with fail
  refine (c6.out _).mono ?_
  rintro e W6 ⟨rfl, hb⟩
  replace A0 := cell_next (below1 hb) nA A0
  replace A1 := cell_next (below1 hb) nA A1
  replace nA := Nat.lt_of_lt_of_le nA (below1 hb).size
  replace B0 := cell_next (below1 hb) nB B0
  replace B1 := cell_next (below1 hb) nB B1
  replace nB := Nat.lt_of_lt_of_le nB (below1 hb).size
  replace Y0 := cell_next (below1 hb) nY Y0
  replace Y1 := cell_next (below1 hb) nY Y1
  replace nY := Nat.lt_of_lt_of_le nY (below1 hb).size
  replace s0 := cell_next (below1 hb) ns s0
  replace s1 := cell_next (below1 hb) ns s1
  replace ns := Nat.lt_of_lt_of_le ns (below1 hb).size
  replace x0 := cell_next (below1 hb) nx x0
  replace x1 := cell_next (below1 hb) nx x1
  replace nx := Nat.lt_of_lt_of_le nx (below1 hb).size
  replace t0 := cell_next (below1 hb) nt t0
  replace t1 := cell_next (below1 hb) nt t1
  replace nt := Nat.lt_of_lt_of_le nt (below1 hb).size
  replace y0 := cell_next (below1 hb) ny y0
  replace y1 := cell_next (below1 hb) ny y1
  replace ny := Nat.lt_of_lt_of_le ny (below1 hb).size
  have o0 := cell_next hb (b := W5.heap.size) (o := 0) (by simp <;> omega) (v := some (.int .i64 ol)) (by simp [go_sem])
  have o1 := cell_next hb (b := W5.heap.size) (o := 1) (by simp <;> omega) (v := some (.int .i64 oh)) (by simp [go_sem])
  have no : W5.heap.size < W6.heap.size := by have := hb.size; simp at this; omega
  replace hB := hB.trans ((below1 hb).mono hB.size)
  clear hb
  generalize W5.heap.size = q6 at *
  go_wp2_with fail
  refine (known_any _).mono ?_
  rintro e W7 ⟨rfl, hb⟩
  replace A0 := cell_next (below1 hb) nA A0
  replace A1 := cell_next (below1 hb) nA A1
  replace nA := Nat.lt_of_lt_of_le nA (below1 hb).size
  replace B0 := cell_next (below1 hb) nB B0
  replace B1 := cell_next (below1 hb) nB B1
  replace nB := Nat.lt_of_lt_of_le nB (below1 hb).size
  replace Y0 := cell_next (below1 hb) nY Y0
  replace Y1 := cell_next (below1 hb) nY Y1
  replace nY := Nat.lt_of_lt_of_le nY (below1 hb).size
  replace s0 := cell_next (below1 hb) ns s0
  replace s1 := cell_next (below1 hb) ns s1
  replace ns := Nat.lt_of_lt_of_le ns (below1 hb).size
  replace x0 := cell_next (below1 hb) nx x0
  replace x1 := cell_next (below1 hb) nx x1
  replace nx := Nat.lt_of_lt_of_le nx (below1 hb).size
  replace t0 := cell_next (below1 hb) nt t0
  replace t1 := cell_next (below1 hb) nt t1
  replace nt := Nat.lt_of_lt_of_le nt (below1 hb).size
  replace y0 := cell_next (below1 hb) ny y0
  replace y1 := cell_next (below1 hb) ny y1
  replace ny := Nat.lt_of_lt_of_le ny (below1 hb).size
  replace o0 := cell_next (below1 hb) no o0
  replace o1 := cell_next (below1 hb) no o1
  replace no := Nat.lt_of_lt_of_le no (below1 hb).size
  have z0 := cell_next hb (b := W6.heap.size) (o := 0) (by simp <;> omega) (v := some (.int .i64 ol)) (by simp [go_sem])
  have z1 := cell_next hb (b := W6.heap.size) (o := 1) (by simp <;> omega) (v := some (.int .i64 oh)) (by simp [go_sem])
  have nz : W6.heap.size < W7.heap.size := by have := hb.size; simp at this; omega
  replace hB := hB.trans ((below1 hb).mono hB.size)
  clear hb
  generalize W6.heap.size = q7 at *
  go_wp2_with fail
  go_ret
  exact ⟨rfl, hB⟩
end Go.Proofs.Ytgakniehfnegiaa
