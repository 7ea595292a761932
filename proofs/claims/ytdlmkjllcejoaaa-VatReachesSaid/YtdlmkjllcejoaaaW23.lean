/- The walk of VatReaches. -/
import Derived.Test.YtdlmkjllcejoaaaJ14
import Derived.Test.YtdlmkjllcejoaaaU25
namespace Go.Proofs.Ytdlmkjllcejoaaa
open Go.RowKit Go.Lib Go.Shelf
set_option linter.unusedVariables false
set_option linter.unusedSimpArgs false
attribute [local go_sem ↓] Go.wp_at_zero Go.wp_at_succ

set_option maxRecDepth 40000 in
set_option maxHeartbeats 4000000 in
theorem vatReaches_true (a s t lo hi x y : Int) (w : World) : Calls Try.prog 4 #[.agg #[.int .i64 a, .int .i64 s], .agg #[.int .i64 t, .int .i64 lo, .int .i64 hi], .agg #[.int .i64 x, .int .i64 y]] w fun e w' => e = .returned (.bool true) ∧ Below w.heap.size w w' := by
  have c1 := Lib.hid (reach_any a s t lo hi x y)
  have c2 := Lib.hid (rReach_any a s t lo hi x y)
  obtain ⟨z1, z2, z3, hV⟩ := zP_form a s t lo hi x y
  rw [hV] at c1 c2
  clear hV
  have c3 := Lib.hid (rIn_any lo 0 10000)
  have c4 := Lib.hid (rIn_any hi (IntKind.i64.wrap (lo + 300)) 10000)
  have CK := Lib.hid known_any
  generalize (decide (0 ≤ lo) && decide (lo ≤ 10000)) = u3 at *
  generalize (decide (IntKind.i64.wrap (lo + 300) ≤ hi) && decide (hi ≤ 10000)) = u4 at *
  obtain ⟨q, hq⟩ : ∃ q, IntKind.i64.wrap (lo + 300) = q := ⟨_, rfl⟩
  rw [hq] at c4
  obtain ⟨u1, h1⟩ : ∃ u, decide (40 < y) = u := ⟨_, rfl⟩
  obtain ⟨u2, h2⟩ : ∃ u, decide (y ≤ 200) = u := ⟨_, rfl⟩
  cases u1
  · go_enter Try.func4, Try.ntmps4
    go_wp2_with fail
    refine (c3.out _).mono ?_
    rintro e w' ⟨rfl, rfl⟩
    cases u3
    · go_wp2_with fail
      refine (c1.out _).mono ?_
      rintro e W1 ⟨rfl, hb⟩
      have s0 := cell_next hb (b := w.heap.size) (o := 0) (by simp <;> omega) (v := some (.int .i64 a)) (by simp [go_sem])
      have s1 := cell_next hb (b := w.heap.size) (o := 1) (by simp <;> omega) (v := some (.int .i64 s)) (by simp [go_sem])
      have ns : w.heap.size < W1.heap.size := by have := hb.size; simp at this; omega
      have M0 := cell_next hb (b := w.heap.size + 1) (o := 0) (by simp <;> omega) (v := some (.int .i64 t)) (by simp [go_sem])
      have M1 := cell_next hb (b := w.heap.size + 1) (o := 1) (by simp <;> omega) (v := some (.int .i64 lo)) (by simp [go_sem])
      have M2 := cell_next hb (b := w.heap.size + 1) (o := 2) (by simp <;> omega) (v := some (.int .i64 hi)) (by simp [go_sem])
      have nM : w.heap.size + 1 < W1.heap.size := by have := hb.size; simp at this; omega
      have x0 := cell_next hb (b := w.heap.size + 1 + 1) (o := 0) (by simp <;> omega) (v := some (.int .i64 x)) (by simp [go_sem])
      have x1 := cell_next hb (b := w.heap.size + 1 + 1) (o := 1) (by simp <;> omega) (v := some (.int .i64 y)) (by simp [go_sem])
      have nx : w.heap.size + 1 + 1 < W1.heap.size := by have := hb.size; simp at this; omega
      have hB := (below3 hb)
      clear hb
      go_wp2_with fail
      refine (c2.out _).mono ?_
      rintro e W2 ⟨rfl, hb⟩
      replace s0 := cell_next (below1 hb) ns s0
      replace s1 := cell_next (below1 hb) ns s1
      replace ns := Nat.lt_of_lt_of_le ns (below1 hb).size
      replace M0 := cell_next (below1 hb) nM M0
      replace M1 := cell_next (below1 hb) nM M1
      replace M2 := cell_next (below1 hb) nM M2
      replace nM := Nat.lt_of_lt_of_le nM (below1 hb).size
      replace x0 := cell_next (below1 hb) nx x0
      replace x1 := cell_next (below1 hb) nx x1
      replace nx := Nat.lt_of_lt_of_le nx (below1 hb).size
      have A0 := cell_next hb (b := W1.heap.size) (o := 0) (by simp <;> omega) (v := some (.int .i64 z1)) (by simp [go_sem])
      have A1 := cell_next hb (b := W1.heap.size) (o := 1) (by simp <;> omega) (v := some (.int .i64 z2)) (by simp [go_sem])
      have nA : W1.heap.size < W2.heap.size := by have := hb.size; simp at this; omega
      replace hB := hB.trans ((below1 hb).mono hB.size)
      clear hb
      generalize W1.heap.size = q2 at *
      clear c1 c2 c3 c4
      go_wp2_with fail
      refine (CK.out _).mono ?_
      rintro e W3 ⟨rfl, hb⟩
      replace s0 := cell_next (below1 hb) ns s0
      replace s1 := cell_next (below1 hb) ns s1
      replace ns := Nat.lt_of_lt_of_le ns (below1 hb).size
      replace M0 := cell_next (below1 hb) nM M0
      replace M1 := cell_next (below1 hb) nM M1
      replace M2 := cell_next (below1 hb) nM M2
      replace nM := Nat.lt_of_lt_of_le nM (below1 hb).size
      replace x0 := cell_next (below1 hb) nx x0
      replace x1 := cell_next (below1 hb) nx x1
      replace nx := Nat.lt_of_lt_of_le nx (below1 hb).size
      replace A0 := cell_next (below1 hb) nA A0
      replace A1 := cell_next (below1 hb) nA A1
      replace nA := Nat.lt_of_lt_of_le nA (below1 hb).size
      have B0 := cell_next hb (b := W2.heap.size) (o := 0) (by simp <;> omega) (v := some (.int .i64 z1)) (by simp [go_sem])
      have B1 := cell_next hb (b := W2.heap.size) (o := 1) (by simp <;> omega) (v := some (.int .i64 z2)) (by simp [go_sem])
      have nB : W2.heap.size < W3.heap.size := by have := hb.size; simp at this; omega
      replace hB := hB.trans ((below1 hb).mono hB.size)
      clear hb
      generalize W2.heap.size = q3 at *
      go_wp2_with fail
      go_ret
      exact ⟨by simp, hB⟩
    · go_wp2_with fail
      refine (c4.out _).mono ?_
      rintro e w' ⟨rfl, rfl⟩
      cases u4
      · go_wp2_with fail
        refine (c1.out _).mono ?_
        rintro e W1 ⟨rfl, hb⟩
        have s0 := cell_next hb (b := w.heap.size) (o := 0) (by simp <;> omega) (v := some (.int .i64 a)) (by simp [go_sem])
        have s1 := cell_next hb (b := w.heap.size) (o := 1) (by simp <;> omega) (v := some (.int .i64 s)) (by simp [go_sem])
        have ns : w.heap.size < W1.heap.size := by have := hb.size; simp at this; omega
        have M0 := cell_next hb (b := w.heap.size + 1) (o := 0) (by simp <;> omega) (v := some (.int .i64 t)) (by simp [go_sem])
        have M1 := cell_next hb (b := w.heap.size + 1) (o := 1) (by simp <;> omega) (v := some (.int .i64 lo)) (by simp [go_sem])
        have M2 := cell_next hb (b := w.heap.size + 1) (o := 2) (by simp <;> omega) (v := some (.int .i64 hi)) (by simp [go_sem])
        have nM : w.heap.size + 1 < W1.heap.size := by have := hb.size; simp at this; omega
        have x0 := cell_next hb (b := w.heap.size + 1 + 1) (o := 0) (by simp <;> omega) (v := some (.int .i64 x)) (by simp [go_sem])
        have x1 := cell_next hb (b := w.heap.size + 1 + 1) (o := 1) (by simp <;> omega) (v := some (.int .i64 y)) (by simp [go_sem])
        have nx : w.heap.size + 1 + 1 < W1.heap.size := by have := hb.size; simp at this; omega
        have hB := (below3 hb)
        clear hb
        go_wp2_with fail
        refine (c2.out _).mono ?_
        rintro e W2 ⟨rfl, hb⟩
        replace s0 := cell_next (below1 hb) ns s0
        replace s1 := cell_next (below1 hb) ns s1
        replace ns := Nat.lt_of_lt_of_le ns (below1 hb).size
        replace M0 := cell_next (below1 hb) nM M0
        replace M1 := cell_next (below1 hb) nM M1
        replace M2 := cell_next (below1 hb) nM M2
        replace nM := Nat.lt_of_lt_of_le nM (below1 hb).size
        replace x0 := cell_next (below1 hb) nx x0
        replace x1 := cell_next (below1 hb) nx x1
        replace nx := Nat.lt_of_lt_of_le nx (below1 hb).size
        have A0 := cell_next hb (b := W1.heap.size) (o := 0) (by simp <;> omega) (v := some (.int .i64 z1)) (by simp [go_sem])
        have A1 := cell_next hb (b := W1.heap.size) (o := 1) (by simp <;> omega) (v := some (.int .i64 z2)) (by simp [go_sem])
        have nA : W1.heap.size < W2.heap.size := by have := hb.size; simp at this; omega
        replace hB := hB.trans ((below1 hb).mono hB.size)
        clear hb
        generalize W1.heap.size = q2 at *
        clear c1 c2 c3 c4
        go_wp2_with fail
        refine (CK.out _).mono ?_
        rintro e W3 ⟨rfl, hb⟩
        replace s0 := cell_next (below1 hb) ns s0
        replace s1 := cell_next (below1 hb) ns s1
        replace ns := Nat.lt_of_lt_of_le ns (below1 hb).size
        replace M0 := cell_next (below1 hb) nM M0
        replace M1 := cell_next (below1 hb) nM M1
        replace M2 := cell_next (below1 hb) nM M2
        replace nM := Nat.lt_of_lt_of_le nM (below1 hb).size
        replace x0 := cell_next (below1 hb) nx x0
        replace x1 := cell_next (below1 hb) nx x1
        replace nx := Nat.lt_of_lt_of_le nx (below1 hb).size
        replace A0 := cell_next (below1 hb) nA A0
        replace A1 := cell_next (below1 hb) nA A1
        replace nA := Nat.lt_of_lt_of_le nA (below1 hb).size
        have B0 := cell_next hb (b := W2.heap.size) (o := 0) (by simp <;> omega) (v := some (.int .i64 z1)) (by simp [go_sem])
        have B1 := cell_next hb (b := W2.heap.size) (o := 1) (by simp <;> omega) (v := some (.int .i64 z2)) (by simp [go_sem])
        have nB : W2.heap.size < W3.heap.size := by have := hb.size; simp at this; omega
        replace hB := hB.trans ((below1 hb).mono hB.size)
        clear hb
        generalize W2.heap.size = q3 at *
        go_wp2_with fail
        go_ret
        exact ⟨by simp, hB⟩
      · go_wp2_with fail
        refine (CK.out _).mono ?_
        rintro e W1 ⟨rfl, hb⟩
        have s0 := cell_next hb (b := w.heap.size) (o := 0) (by simp <;> omega) (v := some (.int .i64 a)) (by simp [go_sem])
        have s1 := cell_next hb (b := w.heap.size) (o := 1) (by simp <;> omega) (v := some (.int .i64 s)) (by simp [go_sem])
        have ns : w.heap.size < W1.heap.size := by have := hb.size; simp at this; omega
        have M0 := cell_next hb (b := w.heap.size + 1) (o := 0) (by simp <;> omega) (v := some (.int .i64 t)) (by simp [go_sem])
        have M1 := cell_next hb (b := w.heap.size + 1) (o := 1) (by simp <;> omega) (v := some (.int .i64 lo)) (by simp [go_sem])
        have M2 := cell_next hb (b := w.heap.size + 1) (o := 2) (by simp <;> omega) (v := some (.int .i64 hi)) (by simp [go_sem])
        have nM : w.heap.size + 1 < W1.heap.size := by have := hb.size; simp at this; omega
        have x0 := cell_next hb (b := w.heap.size + 1 + 1) (o := 0) (by simp <;> omega) (v := some (.int .i64 x)) (by simp [go_sem])
        have x1 := cell_next hb (b := w.heap.size + 1 + 1) (o := 1) (by simp <;> omega) (v := some (.int .i64 y)) (by simp [go_sem])
        have nx : w.heap.size + 1 + 1 < W1.heap.size := by have := hb.size; simp at this; omega
        have hB := (below3 hb)
        clear hb
        go_wp2_with fail
        go_ret
        exact ⟨rfl, hB⟩
  · cases u2
    · go_enter Try.func4, Try.ntmps4
      go_wp2_with fail
      refine (c3.out _).mono ?_
      rintro e w' ⟨rfl, rfl⟩
      cases u3
      · go_wp2_with fail
        refine (c1.out _).mono ?_
        rintro e W1 ⟨rfl, hb⟩
        have s0 := cell_next hb (b := w.heap.size) (o := 0) (by simp <;> omega) (v := some (.int .i64 a)) (by simp [go_sem])
        have s1 := cell_next hb (b := w.heap.size) (o := 1) (by simp <;> omega) (v := some (.int .i64 s)) (by simp [go_sem])
        have ns : w.heap.size < W1.heap.size := by have := hb.size; simp at this; omega
        have M0 := cell_next hb (b := w.heap.size + 1) (o := 0) (by simp <;> omega) (v := some (.int .i64 t)) (by simp [go_sem])
        have M1 := cell_next hb (b := w.heap.size + 1) (o := 1) (by simp <;> omega) (v := some (.int .i64 lo)) (by simp [go_sem])
        have M2 := cell_next hb (b := w.heap.size + 1) (o := 2) (by simp <;> omega) (v := some (.int .i64 hi)) (by simp [go_sem])
        have nM : w.heap.size + 1 < W1.heap.size := by have := hb.size; simp at this; omega
        have x0 := cell_next hb (b := w.heap.size + 1 + 1) (o := 0) (by simp <;> omega) (v := some (.int .i64 x)) (by simp [go_sem])
        have x1 := cell_next hb (b := w.heap.size + 1 + 1) (o := 1) (by simp <;> omega) (v := some (.int .i64 y)) (by simp [go_sem])
        have nx : w.heap.size + 1 + 1 < W1.heap.size := by have := hb.size; simp at this; omega
        have hB := (below3 hb)
        clear hb
        go_wp2_with fail
        refine (c2.out _).mono ?_
        rintro e W2 ⟨rfl, hb⟩
        replace s0 := cell_next (below1 hb) ns s0
        replace s1 := cell_next (below1 hb) ns s1
        replace ns := Nat.lt_of_lt_of_le ns (below1 hb).size
        replace M0 := cell_next (below1 hb) nM M0
        replace M1 := cell_next (below1 hb) nM M1
        replace M2 := cell_next (below1 hb) nM M2
        replace nM := Nat.lt_of_lt_of_le nM (below1 hb).size
        replace x0 := cell_next (below1 hb) nx x0
        replace x1 := cell_next (below1 hb) nx x1
        replace nx := Nat.lt_of_lt_of_le nx (below1 hb).size
        have A0 := cell_next hb (b := W1.heap.size) (o := 0) (by simp <;> omega) (v := some (.int .i64 z1)) (by simp [go_sem])
        have A1 := cell_next hb (b := W1.heap.size) (o := 1) (by simp <;> omega) (v := some (.int .i64 z2)) (by simp [go_sem])
        have nA : W1.heap.size < W2.heap.size := by have := hb.size; simp at this; omega
        replace hB := hB.trans ((below1 hb).mono hB.size)
        clear hb
        generalize W1.heap.size = q2 at *
        clear c1 c2 c3 c4
        go_wp2_with fail
        refine (CK.out _).mono ?_
        rintro e W3 ⟨rfl, hb⟩
        replace s0 := cell_next (below1 hb) ns s0
        replace s1 := cell_next (below1 hb) ns s1
        replace ns := Nat.lt_of_lt_of_le ns (below1 hb).size
        replace M0 := cell_next (below1 hb) nM M0
        replace M1 := cell_next (below1 hb) nM M1
        replace M2 := cell_next (below1 hb) nM M2
        replace nM := Nat.lt_of_lt_of_le nM (below1 hb).size
        replace x0 := cell_next (below1 hb) nx x0
        replace x1 := cell_next (below1 hb) nx x1
        replace nx := Nat.lt_of_lt_of_le nx (below1 hb).size
        replace A0 := cell_next (below1 hb) nA A0
        replace A1 := cell_next (below1 hb) nA A1
        replace nA := Nat.lt_of_lt_of_le nA (below1 hb).size
        have B0 := cell_next hb (b := W2.heap.size) (o := 0) (by simp <;> omega) (v := some (.int .i64 z1)) (by simp [go_sem])
        have B1 := cell_next hb (b := W2.heap.size) (o := 1) (by simp <;> omega) (v := some (.int .i64 z2)) (by simp [go_sem])
        have nB : W2.heap.size < W3.heap.size := by have := hb.size; simp at this; omega
        replace hB := hB.trans ((below1 hb).mono hB.size)
        clear hb
        generalize W2.heap.size = q3 at *
        go_wp2_with fail
        go_ret
        exact ⟨by simp, hB⟩
      · go_wp2_with fail
        refine (c4.out _).mono ?_
        rintro e w' ⟨rfl, rfl⟩
        cases u4
        · go_wp2_with fail
          refine (c1.out _).mono ?_
          rintro e W1 ⟨rfl, hb⟩
          have s0 := cell_next hb (b := w.heap.size) (o := 0) (by simp <;> omega) (v := some (.int .i64 a)) (by simp [go_sem])
          have s1 := cell_next hb (b := w.heap.size) (o := 1) (by simp <;> omega) (v := some (.int .i64 s)) (by simp [go_sem])
          have ns : w.heap.size < W1.heap.size := by have := hb.size; simp at this; omega
          have M0 := cell_next hb (b := w.heap.size + 1) (o := 0) (by simp <;> omega) (v := some (.int .i64 t)) (by simp [go_sem])
          have M1 := cell_next hb (b := w.heap.size + 1) (o := 1) (by simp <;> omega) (v := some (.int .i64 lo)) (by simp [go_sem])
          have M2 := cell_next hb (b := w.heap.size + 1) (o := 2) (by simp <;> omega) (v := some (.int .i64 hi)) (by simp [go_sem])
          have nM : w.heap.size + 1 < W1.heap.size := by have := hb.size; simp at this; omega
          have x0 := cell_next hb (b := w.heap.size + 1 + 1) (o := 0) (by simp <;> omega) (v := some (.int .i64 x)) (by simp [go_sem])
          have x1 := cell_next hb (b := w.heap.size + 1 + 1) (o := 1) (by simp <;> omega) (v := some (.int .i64 y)) (by simp [go_sem])
          have nx : w.heap.size + 1 + 1 < W1.heap.size := by have := hb.size; simp at this; omega
          have hB := (below3 hb)
          clear hb
          go_wp2_with fail
          refine (c2.out _).mono ?_
          rintro e W2 ⟨rfl, hb⟩
          replace s0 := cell_next (below1 hb) ns s0
          replace s1 := cell_next (below1 hb) ns s1
          replace ns := Nat.lt_of_lt_of_le ns (below1 hb).size
          replace M0 := cell_next (below1 hb) nM M0
          replace M1 := cell_next (below1 hb) nM M1
          replace M2 := cell_next (below1 hb) nM M2
          replace nM := Nat.lt_of_lt_of_le nM (below1 hb).size
          replace x0 := cell_next (below1 hb) nx x0
          replace x1 := cell_next (below1 hb) nx x1
          replace nx := Nat.lt_of_lt_of_le nx (below1 hb).size
          have A0 := cell_next hb (b := W1.heap.size) (o := 0) (by simp <;> omega) (v := some (.int .i64 z1)) (by simp [go_sem])
          have A1 := cell_next hb (b := W1.heap.size) (o := 1) (by simp <;> omega) (v := some (.int .i64 z2)) (by simp [go_sem])
          have nA : W1.heap.size < W2.heap.size := by have := hb.size; simp at this; omega
          replace hB := hB.trans ((below1 hb).mono hB.size)
          clear hb
          generalize W1.heap.size = q2 at *
          clear c1 c2 c3 c4
          go_wp2_with fail
          refine (CK.out _).mono ?_
          rintro e W3 ⟨rfl, hb⟩
          replace s0 := cell_next (below1 hb) ns s0
          replace s1 := cell_next (below1 hb) ns s1
          replace ns := Nat.lt_of_lt_of_le ns (below1 hb).size
          replace M0 := cell_next (below1 hb) nM M0
          replace M1 := cell_next (below1 hb) nM M1
          replace M2 := cell_next (below1 hb) nM M2
          replace nM := Nat.lt_of_lt_of_le nM (below1 hb).size
          replace x0 := cell_next (below1 hb) nx x0
          replace x1 := cell_next (below1 hb) nx x1
          replace nx := Nat.lt_of_lt_of_le nx (below1 hb).size
          replace A0 := cell_next (below1 hb) nA A0
          replace A1 := cell_next (below1 hb) nA A1
          replace nA := Nat.lt_of_lt_of_le nA (below1 hb).size
          have B0 := cell_next hb (b := W2.heap.size) (o := 0) (by simp <;> omega) (v := some (.int .i64 z1)) (by simp [go_sem])
          have B1 := cell_next hb (b := W2.heap.size) (o := 1) (by simp <;> omega) (v := some (.int .i64 z2)) (by simp [go_sem])
          have nB : W2.heap.size < W3.heap.size := by have := hb.size; simp at this; omega
          replace hB := hB.trans ((below1 hb).mono hB.size)
          clear hb
          generalize W2.heap.size = q3 at *
          go_wp2_with fail
          go_ret
          exact ⟨by simp, hB⟩
        · go_wp2_with fail
          refine (CK.out _).mono ?_
          rintro e W1 ⟨rfl, hb⟩
          have s0 := cell_next hb (b := w.heap.size) (o := 0) (by simp <;> omega) (v := some (.int .i64 a)) (by simp [go_sem])
          have s1 := cell_next hb (b := w.heap.size) (o := 1) (by simp <;> omega) (v := some (.int .i64 s)) (by simp [go_sem])
          have ns : w.heap.size < W1.heap.size := by have := hb.size; simp at this; omega
          have M0 := cell_next hb (b := w.heap.size + 1) (o := 0) (by simp <;> omega) (v := some (.int .i64 t)) (by simp [go_sem])
          have M1 := cell_next hb (b := w.heap.size + 1) (o := 1) (by simp <;> omega) (v := some (.int .i64 lo)) (by simp [go_sem])
          have M2 := cell_next hb (b := w.heap.size + 1) (o := 2) (by simp <;> omega) (v := some (.int .i64 hi)) (by simp [go_sem])
          have nM : w.heap.size + 1 < W1.heap.size := by have := hb.size; simp at this; omega
          have x0 := cell_next hb (b := w.heap.size + 1 + 1) (o := 0) (by simp <;> omega) (v := some (.int .i64 x)) (by simp [go_sem])
          have x1 := cell_next hb (b := w.heap.size + 1 + 1) (o := 1) (by simp <;> omega) (v := some (.int .i64 y)) (by simp [go_sem])
          have nx : w.heap.size + 1 + 1 < W1.heap.size := by have := hb.size; simp at this; omega
          have hB := (below3 hb)
          clear hb
          go_wp2_with fail
          go_ret
          exact ⟨rfl, hB⟩
    · go_enter Try.func4, Try.ntmps4
      go_wp2_with fail
      refine (CK.out _).mono ?_
      rintro e W1 ⟨rfl, hb⟩
      have s0 := cell_next hb (b := w.heap.size) (o := 0) (by simp <;> omega) (v := some (.int .i64 a)) (by simp [go_sem])
      have s1 := cell_next hb (b := w.heap.size) (o := 1) (by simp <;> omega) (v := some (.int .i64 s)) (by simp [go_sem])
      have ns : w.heap.size < W1.heap.size := by have := hb.size; simp at this; omega
      have M0 := cell_next hb (b := w.heap.size + 1) (o := 0) (by simp <;> omega) (v := some (.int .i64 t)) (by simp [go_sem])
      have M1 := cell_next hb (b := w.heap.size + 1) (o := 1) (by simp <;> omega) (v := some (.int .i64 lo)) (by simp [go_sem])
      have M2 := cell_next hb (b := w.heap.size + 1) (o := 2) (by simp <;> omega) (v := some (.int .i64 hi)) (by simp [go_sem])
      have nM : w.heap.size + 1 < W1.heap.size := by have := hb.size; simp at this; omega
      have x0 := cell_next hb (b := w.heap.size + 1 + 1) (o := 0) (by simp <;> omega) (v := some (.int .i64 x)) (by simp [go_sem])
      have x1 := cell_next hb (b := w.heap.size + 1 + 1) (o := 1) (by simp <;> omega) (v := some (.int .i64 y)) (by simp [go_sem])
      have nx : w.heap.size + 1 + 1 < W1.heap.size := by have := hb.size; simp at this; omega
      have hB := (below3 hb)
      clear hb
      go_wp2_with fail
      go_ret
      exact ⟨rfl, hB⟩
end Go.Proofs.Ytdlmkjllcejoaaa
