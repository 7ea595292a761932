/- The walk of the statement on all truths, where there are quotients. -/
import Derived.Test.YtgakniehfnegiaaH3
namespace Go.Proofs.Ytgakniehfnegiaa
open Go.RowKit Go.Lib Go.Shelf
set_option linter.unusedVariables false
set_option linter.unusedSimpArgs false
attribute [local go_sem ↓] Go.wp_at_zero Go.wp_at_succ


set_option maxRecDepth 40000 in
set_option maxHeartbeats 6000000 in
theorem holds_neg (a0 a1 b0 b1 p0 p1 p2 m1 m2 m3 m4 xl xh yl yh m n d sL sH dL dH pL pH kL kH s2L s2H d2L d2H p2L p2H k2L k2H hL hH qL qH : Int) (E : Ends a0 a1 b0 b1 m1 m2 m3 m4 xl xh yl yh) (hK : HC p0 p1 xl xh yl yh m n d sL sH dL dH pL pH kL kH s2L s2H d2L d2H p2L p2H k2L k2H hL hH) (N : HN p2 xl xh yl yh m n d sL sH dL dH pL pH kL kH s2L s2H d2L d2H p2L p2H k2L k2H hL hH) (hov : ∀ w : World, Calls Try.prog 33 #[.agg #[.int .i64 xl, .int .i64 xh], .agg #[.int .i64 yl, .int .i64 yh]] w fun e w' => e = .returned (.tuple #[.agg #[.int .i64 qL, .int .i64 qH], .int .i64 0]) ∧ Below w.heap.size w w') (hhy : ∀ w : World, Calls Try.prog 85 #[.agg #[.int .i64 yl, .int .i64 yh], .int .i64 0] w fun e w' => e = .returned (.bool false) ∧ Below w.heap.size w w') (hhq : ∀ w : World, Calls Try.prog 85 #[.agg #[.int .i64 qL, .int .i64 qH], .int .i64 qL] w fun e w' => e = .returned (.bool true) ∧ Below w.heap.size w w') (hhx : ∀ w : World, Calls Try.prog 85 #[.agg #[.int .i64 xl, .int .i64 xh], .int .i64 m] w fun e w' => e = .returned (.bool true) ∧ Below w.heap.size w w') (ql1 : -1000000000000000 ≤ qL * n) (ql2 : qL * n ≤ 1000000000000000) (qh1 : -1000000000000000 ≤ qH * n) (qh2 : qH * n ≤ 1000000000000000) (hn : n < 0) (o1 : qH * n ≤ m) (o2 : m ≤ qL * n) (w : World) :
    Calls Try.prog 11 #[.agg #[.int .i32 a0, .int .i32 a1], .agg #[.int .i32 b0, .int .i32 b1], .agg #[.int .u32 p0, .int .u32 p1, .int .u32 p2]] w fun e w' => e = .returned (.bool true) ∧ Below w.heap.size w w' := by
  have K := Lib.hid hK
  obtain ⟨h1, h2, h3, h4, r1, s1, r2, s2, r3, s3, r4, s4, t1, t2, t3, t4⟩ := E
  have H1 : ∀ tys ty w, (Builtin.min_ tys ty #[.int .i32 a0, .int .i32 a1]).run Try.prog w = .ok (.int .i32 m1) w := fun tys ty w => by rw [run_min2, h1]
  have H2 : ∀ tys ty w, (Builtin.max_ tys ty #[.int .i32 a0, .int .i32 a1]).run Try.prog w = .ok (.int .i32 m2) w := fun tys ty w => by rw [run_max2, h2]
  have H3 : ∀ tys ty w, (Builtin.min_ tys ty #[.int .i32 b0, .int .i32 b1]).run Try.prog w = .ok (.int .i32 m3) w := fun tys ty w => by rw [run_min2, h3]
  have H4 : ∀ tys ty w, (Builtin.max_ tys ty #[.int .i32 b0, .int .i32 b1]).run Try.prog w = .ok (.int .i32 m4) w := fun tys ty w => by rw [run_max2, h4]
  obtain ⟨x1, x2, x3, x4, y1, y2, y3, y4, pp1, pp2, hd, d1, d2, k1, k2, k3, b1', b2', b3', b4', b5', b6'⟩ := N
  have e1 : IntKind.i64.wrap (kL * d) = kL * d := IntWalk.i64_in _ (by omega)
  have e2 : IntKind.i64.wrap (kH * d) = kH * d := IntWalk.i64_in _ (by omega)
  have e3 : IntKind.i64.wrap (m * n) = m * n := IntWalk.i64_in _ (by omega)
  have g1 : decide (m * n < kL * d) = false := by simpa using k2
  have g2 : decide (kH * d < m * n) = false := by simpa using k3
  have g3 : decide (kH < kL) = false := by simpa using k1
  have HO := Lib.hid hov
  have HY := Lib.hid hhy
  have HQ := Lib.hid hhq
  have HX := Lib.hid hhx
  have e4 : IntKind.i64.wrap (qL * n) = qL * n := IntWalk.i64_in _ (by omega)
  have e5 : IntKind.i64.wrap (qH * n) = qH * n := IntWalk.i64_in _ (by omega)
  have u1 : decide (m < qH * n) = false := by simpa using o1
  have u2 : decide (qL * n < m) = false := by simpa using o2
  have u3 : decide (n < 0) = true := by simpa using hn
  clear hov hhy hhq hhx ql1 ql2 qh1 qh2 o1 o2
  clear h1 h2 h3 h4 hK k2 k3 b1' b2' b3' b4' b5' b6'
  go_enter Try.func11, Try.ntmps11
  go_wp2_with fail
  refine (K.out.c1 _).mono ?_
  rintro e W1 ⟨rfl, hb⟩
  have P0 := cell_next hb (b := w.heap.size + 1 + 1) (o := 0) (by simp <;> omega) (v := some (.int .u32 p0)) (by simp [go_sem])
  have P1 := cell_next hb (b := w.heap.size + 1 + 1) (o := 1) (by simp <;> omega) (v := some (.int .u32 p1)) (by simp [go_sem])
  have P2 := cell_next hb (b := w.heap.size + 1 + 1) (o := 2) (by simp <;> omega) (v := some (.int .u32 p2)) (by simp [go_sem])
  have nP : w.heap.size + 1 + 1 < W1.heap.size := by have := hb.size; simp at this; omega
  have X0 := cell_next hb (b := w.heap.size + 1 + 1 + 1) (o := 0) (by simp <;> omega) (v := some (.int .i64 xl)) (by simp [go_sem])
  have X1 := cell_next hb (b := w.heap.size + 1 + 1 + 1) (o := 1) (by simp <;> omega) (v := some (.int .i64 xh)) (by simp [go_sem])
  have nX : w.heap.size + 1 + 1 + 1 < W1.heap.size := by have := hb.size; simp at this; omega
  have Y0 := cell_next hb (b := w.heap.size + 1 + 1 + 1 + 1) (o := 0) (by simp <;> omega) (v := some (.int .i64 yl)) (by simp [go_sem])
  have Y1 := cell_next hb (b := w.heap.size + 1 + 1 + 1 + 1) (o := 1) (by simp <;> omega) (v := some (.int .i64 yh)) (by simp [go_sem])
  have nY : w.heap.size + 1 + 1 + 1 + 1 < W1.heap.size := by have := hb.size; simp at this; omega
  have hB := (below5 hb)
  clear hb
  go_wp2_with fail
  refine (K.out.c2 _).mono ?_
  rintro e W2 ⟨rfl, hb⟩
  replace P0 := cell_next hb nP P0
  replace P1 := cell_next hb nP P1
  replace P2 := cell_next hb nP P2
  replace nP := Nat.lt_of_lt_of_le nP hb.size
  replace X0 := cell_next hb nX X0
  replace X1 := cell_next hb nX X1
  replace nX := Nat.lt_of_lt_of_le nX hb.size
  replace Y0 := cell_next hb nY Y0
  replace Y1 := cell_next hb nY Y1
  replace nY := Nat.lt_of_lt_of_le nY hb.size
  replace hB := hB.trans (hb.mono hB.size)
  clear hb
  go_wp2_with fail
  refine (K.out.c3 _ _ (row2_at _ _ _ (by simp) _ _ _ _).set).mono ?_
  rintro e W3 ⟨rfl, hb⟩
  replace P0 := cell_next (below2 hb) nP P0
  replace P1 := cell_next (below2 hb) nP P1
  replace P2 := cell_next (below2 hb) nP P2
  replace nP := Nat.lt_of_lt_of_le nP (below2 hb).size
  replace X0 := cell_next (below2 hb) nX X0
  replace X1 := cell_next (below2 hb) nX X1
  replace nX := Nat.lt_of_lt_of_le nX (below2 hb).size
  replace Y0 := cell_next (below2 hb) nY Y0
  replace Y1 := cell_next (below2 hb) nY Y1
  replace nY := Nat.lt_of_lt_of_le nY (below2 hb).size
  have L0 := cell_next hb (b := W2.heap.size) (o := 0) (by simp <;> omega) (v := some (.int .i64 m)) (by simp [go_sem])
  have L1 := cell_next hb (b := W2.heap.size) (o := 1) (by simp <;> omega) (v := some (.int .i64 xh)) (by simp [go_sem])
  have nL : W2.heap.size < W3.heap.size := by have := hb.size; simp at this; omega
  replace hB := hB.trans ((below2 hb).mono hB.size)
  clear hb
  generalize W2.heap.size = q3 at *
  clear P0 P1 P2 nP
  go_wp2_with fail
  refine (K.out.c4 _).mono ?_
  rintro e W4 ⟨rfl, hb⟩
  replace X0 := cell_next (below1 hb) nX X0
  replace X1 := cell_next (below1 hb) nX X1
  replace nX := Nat.lt_of_lt_of_le nX (below1 hb).size
  replace Y0 := cell_next (below1 hb) nY Y0
  replace Y1 := cell_next (below1 hb) nY Y1
  replace nY := Nat.lt_of_lt_of_le nY (below1 hb).size
  replace L0 := cell_next (below1 hb) nL L0
  replace L1 := cell_next (below1 hb) nL L1
  replace nL := Nat.lt_of_lt_of_le nL (below1 hb).size
  have s0 := cell_next hb (b := W3.heap.size) (o := 0) (by simp <;> omega) (v := some (.int .i64 sL)) (by simp [go_sem])
  have s1 := cell_next hb (b := W3.heap.size) (o := 1) (by simp <;> omega) (v := some (.int .i64 sH)) (by simp [go_sem])
  have ns : W3.heap.size < W4.heap.size := by have := hb.size; simp at this; omega
  replace hB := hB.trans ((below1 hb).mono hB.size)
  clear hb
  generalize W3.heap.size = q4 at *
  go_wp2_with fail
  refine (K.out.c5 _).mono ?_
  rintro e W5 ⟨rfl, hb⟩
  replace X0 := cell_next (below1 hb) nX X0
  replace X1 := cell_next (below1 hb) nX X1
  replace nX := Nat.lt_of_lt_of_le nX (below1 hb).size
  replace Y0 := cell_next (below1 hb) nY Y0
  replace Y1 := cell_next (below1 hb) nY Y1
  replace nY := Nat.lt_of_lt_of_le nY (below1 hb).size
  replace L0 := cell_next (below1 hb) nL L0
  replace L1 := cell_next (below1 hb) nL L1
  replace nL := Nat.lt_of_lt_of_le nL (below1 hb).size
  replace s0 := cell_next (below1 hb) ns s0
  replace s1 := cell_next (below1 hb) ns s1
  replace ns := Nat.lt_of_lt_of_le ns (below1 hb).size
  have d0 := cell_next hb (b := W4.heap.size) (o := 0) (by simp <;> omega) (v := some (.int .i64 dL)) (by simp [go_sem])
  have d1 := cell_next hb (b := W4.heap.size) (o := 1) (by simp <;> omega) (v := some (.int .i64 dH)) (by simp [go_sem])
  have nd : W4.heap.size < W5.heap.size := by have := hb.size; simp at this; omega
  replace hB := hB.trans ((below1 hb).mono hB.size)
  clear hb
  generalize W4.heap.size = q5 at *
  go_wp2_with fail
  refine (K.out.c6 _).mono ?_
  rintro e W6 ⟨rfl, hb⟩
  replace X0 := cell_next (below1 hb) nX X0
  replace X1 := cell_next (below1 hb) nX X1
  replace nX := Nat.lt_of_lt_of_le nX (below1 hb).size
  replace Y0 := cell_next (below1 hb) nY Y0
  replace Y1 := cell_next (below1 hb) nY Y1
  replace nY := Nat.lt_of_lt_of_le nY (below1 hb).size
  replace L0 := cell_next (below1 hb) nL L0
  replace L1 := cell_next (below1 hb) nL L1
  replace nL := Nat.lt_of_lt_of_le nL (below1 hb).size
  replace s0 := cell_next (below1 hb) ns s0
  replace s1 := cell_next (below1 hb) ns s1
  replace ns := Nat.lt_of_lt_of_le ns (below1 hb).size
  replace d0 := cell_next (below1 hb) nd d0
  replace d1 := cell_next (below1 hb) nd d1
  replace nd := Nat.lt_of_lt_of_le nd (below1 hb).size
  have p0 := cell_next hb (b := W5.heap.size) (o := 0) (by simp <;> omega) (v := some (.int .i64 pL)) (by simp [go_sem])
  have p1 := cell_next hb (b := W5.heap.size) (o := 1) (by simp <;> omega) (v := some (.int .i64 pH)) (by simp [go_sem])
  have np : W5.heap.size < W6.heap.size := by have := hb.size; simp at this; omega
  replace hB := hB.trans ((below1 hb).mono hB.size)
  clear hb
  generalize W5.heap.size = q6 at *
  go_wp2_with fail
  refine (K.out.c7 _).mono ?_
  rintro e W7 ⟨rfl, hb⟩
  replace X0 := cell_next (below1 hb) nX X0
  replace X1 := cell_next (below1 hb) nX X1
  replace nX := Nat.lt_of_lt_of_le nX (below1 hb).size
  replace Y0 := cell_next (below1 hb) nY Y0
  replace Y1 := cell_next (below1 hb) nY Y1
  replace nY := Nat.lt_of_lt_of_le nY (below1 hb).size
  replace L0 := cell_next (below1 hb) nL L0
  replace L1 := cell_next (below1 hb) nL L1
  replace nL := Nat.lt_of_lt_of_le nL (below1 hb).size
  replace s0 := cell_next (below1 hb) ns s0
  replace s1 := cell_next (below1 hb) ns s1
  replace ns := Nat.lt_of_lt_of_le ns (below1 hb).size
  replace d0 := cell_next (below1 hb) nd d0
  replace d1 := cell_next (below1 hb) nd d1
  replace nd := Nat.lt_of_lt_of_le nd (below1 hb).size
  replace p0 := cell_next (below1 hb) np p0
  replace p1 := cell_next (below1 hb) np p1
  replace np := Nat.lt_of_lt_of_le np (below1 hb).size
  have k0 := cell_next hb (b := W6.heap.size) (o := 0) (by simp <;> omega) (v := some (.int .i64 kL)) (by simp [go_sem])
  have k1 := cell_next hb (b := W6.heap.size) (o := 1) (by simp <;> omega) (v := some (.int .i64 kH)) (by simp [go_sem])
  have nk : W6.heap.size < W7.heap.size := by have := hb.size; simp at this; omega
  replace hB := hB.trans ((below1 hb).mono hB.size)
  clear hb
  generalize W6.heap.size = q7 at *
  go_wp2_with fail
  refine (K.out.c8 _).mono ?_
  rintro e W8 ⟨rfl, hb⟩
  replace X0 := cell_next hb nX X0
  replace X1 := cell_next hb nX X1
  replace nX := Nat.lt_of_lt_of_le nX hb.size
  replace Y0 := cell_next hb nY Y0
  replace Y1 := cell_next hb nY Y1
  replace nY := Nat.lt_of_lt_of_le nY hb.size
  replace L0 := cell_next hb nL L0
  replace L1 := cell_next hb nL L1
  replace nL := Nat.lt_of_lt_of_le nL hb.size
  replace s0 := cell_next hb ns s0
  replace s1 := cell_next hb ns s1
  replace ns := Nat.lt_of_lt_of_le ns hb.size
  replace d0 := cell_next hb nd d0
  replace d1 := cell_next hb nd d1
  replace nd := Nat.lt_of_lt_of_le nd hb.size
  replace p0 := cell_next hb np p0
  replace p1 := cell_next hb np p1
  replace np := Nat.lt_of_lt_of_le np hb.size
  replace k0 := cell_next hb nk k0
  replace k1 := cell_next hb nk k1
  replace nk := Nat.lt_of_lt_of_le nk hb.size
  replace hB := hB.trans (hb.mono hB.size)
  clear hb
  go_wp2_with fail
  refine (K.out.c9 _).mono ?_
  rintro e W9 ⟨rfl, hb⟩
  replace X0 := cell_next hb nX X0
  replace X1 := cell_next hb nX X1
  replace nX := Nat.lt_of_lt_of_le nX hb.size
  replace Y0 := cell_next hb nY Y0
  replace Y1 := cell_next hb nY Y1
  replace nY := Nat.lt_of_lt_of_le nY hb.size
  replace L0 := cell_next hb nL L0
  replace L1 := cell_next hb nL L1
  replace nL := Nat.lt_of_lt_of_le nL hb.size
  replace s0 := cell_next hb ns s0
  replace s1 := cell_next hb ns s1
  replace ns := Nat.lt_of_lt_of_le ns hb.size
  replace d0 := cell_next hb nd d0
  replace d1 := cell_next hb nd d1
  replace nd := Nat.lt_of_lt_of_le nd hb.size
  replace p0 := cell_next hb np p0
  replace p1 := cell_next hb np p1
  replace np := Nat.lt_of_lt_of_le np hb.size
  replace k0 := cell_next hb nk k0
  replace k1 := cell_next hb nk k1
  replace nk := Nat.lt_of_lt_of_le nk hb.size
  replace hB := hB.trans (hb.mono hB.size)
  clear hb
  go_wp2_with fail
  refine (HO.out _).mono ?_
  rintro e W10 ⟨rfl, hb⟩
  replace X0 := cell_next hb nX X0
  replace X1 := cell_next hb nX X1
  replace nX := Nat.lt_of_lt_of_le nX hb.size
  replace Y0 := cell_next hb nY Y0
  replace Y1 := cell_next hb nY Y1
  replace nY := Nat.lt_of_lt_of_le nY hb.size
  replace L0 := cell_next hb nL L0
  replace L1 := cell_next hb nL L1
  replace nL := Nat.lt_of_lt_of_le nL hb.size
  replace s0 := cell_next hb ns s0
  replace s1 := cell_next hb ns s1
  replace ns := Nat.lt_of_lt_of_le ns hb.size
  replace d0 := cell_next hb nd d0
  replace d1 := cell_next hb nd d1
  replace nd := Nat.lt_of_lt_of_le nd hb.size
  replace p0 := cell_next hb np p0
  replace p1 := cell_next hb np p1
  replace np := Nat.lt_of_lt_of_le np hb.size
  replace k0 := cell_next hb nk k0
  replace k1 := cell_next hb nk k1
  replace nk := Nat.lt_of_lt_of_le nk hb.size
  replace hB := hB.trans (hb.mono hB.size)
  clear hb
  go_wp2_with fail
  refine (HY.out _).mono ?_
  rintro e W11 ⟨rfl, hb⟩
  replace X0 := cell_next (below1 hb) nX X0
  replace X1 := cell_next (below1 hb) nX X1
  replace nX := Nat.lt_of_lt_of_le nX (below1 hb).size
  replace Y0 := cell_next (below1 hb) nY Y0
  replace Y1 := cell_next (below1 hb) nY Y1
  replace nY := Nat.lt_of_lt_of_le nY (below1 hb).size
  replace L0 := cell_next (below1 hb) nL L0
  replace L1 := cell_next (below1 hb) nL L1
  replace nL := Nat.lt_of_lt_of_le nL (below1 hb).size
  replace s0 := cell_next (below1 hb) ns s0
  replace s1 := cell_next (below1 hb) ns s1
  replace ns := Nat.lt_of_lt_of_le ns (below1 hb).size
  replace d0 := cell_next (below1 hb) nd d0
  replace d1 := cell_next (below1 hb) nd d1
  replace nd := Nat.lt_of_lt_of_le nd (below1 hb).size
  replace p0 := cell_next (below1 hb) np p0
  replace p1 := cell_next (below1 hb) np p1
  replace np := Nat.lt_of_lt_of_le np (below1 hb).size
  replace k0 := cell_next (below1 hb) nk k0
  replace k1 := cell_next (below1 hb) nk k1
  replace nk := Nat.lt_of_lt_of_le nk (below1 hb).size
  have z0 := cell_next hb (b := W10.heap.size) (o := 0) (by simp <;> omega) (v := some (.int .i64 qL)) (by simp [go_sem])
  have z1 := cell_next hb (b := W10.heap.size) (o := 1) (by simp <;> omega) (v := some (.int .i64 qH)) (by simp [go_sem])
  have nz : W10.heap.size < W11.heap.size := by have := hb.size; simp at this; omega
  replace hB := hB.trans ((below1 hb).mono hB.size)
  clear hb
  generalize W10.heap.size = q11 at *
  go_wp2_with fail
  go_quiet (fail)
  go_wp2_with fail
  refine (HQ.out _).mono ?_
  rintro e W12 ⟨rfl, hb⟩
  replace hb := below_undrew hb
  replace X0 := cell_next hb nX X0
  replace X1 := cell_next hb nX X1
  replace nX := Nat.lt_of_lt_of_le nX hb.size
  replace Y0 := cell_next hb nY Y0
  replace Y1 := cell_next hb nY Y1
  replace nY := Nat.lt_of_lt_of_le nY hb.size
  replace L0 := cell_next hb nL L0
  replace L1 := cell_next hb nL L1
  replace nL := Nat.lt_of_lt_of_le nL hb.size
  replace s0 := cell_next hb ns s0
  replace s1 := cell_next hb ns s1
  replace ns := Nat.lt_of_lt_of_le ns hb.size
  replace d0 := cell_next hb nd d0
  replace d1 := cell_next hb nd d1
  replace nd := Nat.lt_of_lt_of_le nd hb.size
  replace p0 := cell_next hb np p0
  replace p1 := cell_next hb np p1
  replace np := Nat.lt_of_lt_of_le np hb.size
  replace k0 := cell_next hb nk k0
  replace k1 := cell_next hb nk k1
  replace nk := Nat.lt_of_lt_of_le nk hb.size
  replace z0 := cell_next hb nz z0
  replace z1 := cell_next hb nz z1
  replace nz := Nat.lt_of_lt_of_le nz hb.size
  replace hB := hB.trans (hb.mono hB.size)
  clear hb
  clear z0 z1 nz
  go_wp2_with fail
  refine (HX.out _).mono ?_
  rintro e W13 ⟨rfl, hb⟩
  replace X0 := cell_next hb nX X0
  replace X1 := cell_next hb nX X1
  replace nX := Nat.lt_of_lt_of_le nX hb.size
  replace Y0 := cell_next hb nY Y0
  replace Y1 := cell_next hb nY Y1
  replace nY := Nat.lt_of_lt_of_le nY hb.size
  replace L0 := cell_next hb nL L0
  replace L1 := cell_next hb nL L1
  replace nL := Nat.lt_of_lt_of_le nL hb.size
  replace s0 := cell_next hb ns s0
  replace s1 := cell_next hb ns s1
  replace ns := Nat.lt_of_lt_of_le ns hb.size
  replace d0 := cell_next hb nd d0
  replace d1 := cell_next hb nd d1
  replace nd := Nat.lt_of_lt_of_le nd hb.size
  replace p0 := cell_next hb np p0
  replace p1 := cell_next hb np p1
  replace np := Nat.lt_of_lt_of_le np hb.size
  replace k0 := cell_next hb nk k0
  replace k1 := cell_next hb nk k1
  replace nk := Nat.lt_of_lt_of_le nk hb.size
  replace hB := hB.trans (hb.mono hB.size)
  clear hb
  go_wp2_with fail
  refine (K.out.c14 _ _ (row2_at _ _ _ (by simp) _ _ _ _).set).mono ?_
  rintro e W14 ⟨rfl, hb⟩
  replace X0 := cell_next (below1 hb) nX X0
  replace X1 := cell_next (below1 hb) nX X1
  replace nX := Nat.lt_of_lt_of_le nX (below1 hb).size
  replace Y0 := cell_next (below1 hb) nY Y0
  replace Y1 := cell_next (below1 hb) nY Y1
  replace nY := Nat.lt_of_lt_of_le nY (below1 hb).size
  replace L0 := cell_next (below1 hb) nL L0
  replace L1 := cell_next (below1 hb) nL L1
  replace nL := Nat.lt_of_lt_of_le nL (below1 hb).size
  replace s0 := cell_next (below1 hb) ns s0
  replace s1 := cell_next (below1 hb) ns s1
  replace ns := Nat.lt_of_lt_of_le ns (below1 hb).size
  replace d0 := cell_next (below1 hb) nd d0
  replace d1 := cell_next (below1 hb) nd d1
  replace nd := Nat.lt_of_lt_of_le nd (below1 hb).size
  replace p0 := cell_next (below1 hb) np p0
  replace p1 := cell_next (below1 hb) np p1
  replace np := Nat.lt_of_lt_of_le np (below1 hb).size
  replace k0 := cell_next (below1 hb) nk k0
  replace k1 := cell_next (below1 hb) nk k1
  replace nk := Nat.lt_of_lt_of_le nk (below1 hb).size
  replace hB := hB.trans ((below1 hb).mono hB.size)
  clear hb
  generalize W13.heap.size = q14 at *
  go_wp2_with fail
  refine (K.out.c15 _).mono ?_
  rintro e W15 ⟨rfl, hb⟩
  replace X0 := cell_next (below1 hb) nX X0
  replace X1 := cell_next (below1 hb) nX X1
  replace nX := Nat.lt_of_lt_of_le nX (below1 hb).size
  replace Y0 := cell_next (below1 hb) nY Y0
  replace Y1 := cell_next (below1 hb) nY Y1
  replace nY := Nat.lt_of_lt_of_le nY (below1 hb).size
  replace L0 := cell_next (below1 hb) nL L0
  replace L1 := cell_next (below1 hb) nL L1
  replace nL := Nat.lt_of_lt_of_le nL (below1 hb).size
  replace s0 := cell_next (below1 hb) ns s0
  replace s1 := cell_next (below1 hb) ns s1
  replace ns := Nat.lt_of_lt_of_le ns (below1 hb).size
  replace d0 := cell_next (below1 hb) nd d0
  replace d1 := cell_next (below1 hb) nd d1
  replace nd := Nat.lt_of_lt_of_le nd (below1 hb).size
  replace p0 := cell_next (below1 hb) np p0
  replace p1 := cell_next (below1 hb) np p1
  replace np := Nat.lt_of_lt_of_le np (below1 hb).size
  replace k0 := cell_next (below1 hb) nk k0
  replace k1 := cell_next (below1 hb) nk k1
  replace nk := Nat.lt_of_lt_of_le nk (below1 hb).size
  have s20 := cell_next hb (b := W14.heap.size) (o := 0) (by simp <;> omega) (v := some (.int .i64 s2L)) (by simp [go_sem])
  have s21 := cell_next hb (b := W14.heap.size) (o := 1) (by simp <;> omega) (v := some (.int .i64 s2H)) (by simp [go_sem])
  have ns2 : W14.heap.size < W15.heap.size := by have := hb.size; simp at this; omega
  replace hB := hB.trans ((below1 hb).mono hB.size)
  clear hb
  generalize W14.heap.size = q15 at *
  go_wp2_with fail
  refine (K.out.c16 _).mono ?_
  rintro e W16 ⟨rfl, hb⟩
  replace X0 := cell_next (below1 hb) nX X0
  replace X1 := cell_next (below1 hb) nX X1
  replace nX := Nat.lt_of_lt_of_le nX (below1 hb).size
  replace Y0 := cell_next (below1 hb) nY Y0
  replace Y1 := cell_next (below1 hb) nY Y1
  replace nY := Nat.lt_of_lt_of_le nY (below1 hb).size
  replace L0 := cell_next (below1 hb) nL L0
  replace L1 := cell_next (below1 hb) nL L1
  replace nL := Nat.lt_of_lt_of_le nL (below1 hb).size
  replace s0 := cell_next (below1 hb) ns s0
  replace s1 := cell_next (below1 hb) ns s1
  replace ns := Nat.lt_of_lt_of_le ns (below1 hb).size
  replace d0 := cell_next (below1 hb) nd d0
  replace d1 := cell_next (below1 hb) nd d1
  replace nd := Nat.lt_of_lt_of_le nd (below1 hb).size
  replace p0 := cell_next (below1 hb) np p0
  replace p1 := cell_next (below1 hb) np p1
  replace np := Nat.lt_of_lt_of_le np (below1 hb).size
  replace k0 := cell_next (below1 hb) nk k0
  replace k1 := cell_next (below1 hb) nk k1
  replace nk := Nat.lt_of_lt_of_le nk (below1 hb).size
  replace s20 := cell_next (below1 hb) ns2 s20
  replace s21 := cell_next (below1 hb) ns2 s21
  replace ns2 := Nat.lt_of_lt_of_le ns2 (below1 hb).size
  have d20 := cell_next hb (b := W15.heap.size) (o := 0) (by simp <;> omega) (v := some (.int .i64 d2L)) (by simp [go_sem])
  have d21 := cell_next hb (b := W15.heap.size) (o := 1) (by simp <;> omega) (v := some (.int .i64 d2H)) (by simp [go_sem])
  have nd2 : W15.heap.size < W16.heap.size := by have := hb.size; simp at this; omega
  replace hB := hB.trans ((below1 hb).mono hB.size)
  clear hb
  generalize W15.heap.size = q16 at *
  go_wp2_with fail
  refine (K.out.c17 _).mono ?_
  rintro e W17 ⟨rfl, hb⟩
  replace X0 := cell_next (below1 hb) nX X0
  replace X1 := cell_next (below1 hb) nX X1
  replace nX := Nat.lt_of_lt_of_le nX (below1 hb).size
  replace Y0 := cell_next (below1 hb) nY Y0
  replace Y1 := cell_next (below1 hb) nY Y1
  replace nY := Nat.lt_of_lt_of_le nY (below1 hb).size
  replace L0 := cell_next (below1 hb) nL L0
  replace L1 := cell_next (below1 hb) nL L1
  replace nL := Nat.lt_of_lt_of_le nL (below1 hb).size
  replace s0 := cell_next (below1 hb) ns s0
  replace s1 := cell_next (below1 hb) ns s1
  replace ns := Nat.lt_of_lt_of_le ns (below1 hb).size
  replace d0 := cell_next (below1 hb) nd d0
  replace d1 := cell_next (below1 hb) nd d1
  replace nd := Nat.lt_of_lt_of_le nd (below1 hb).size
  replace p0 := cell_next (below1 hb) np p0
  replace p1 := cell_next (below1 hb) np p1
  replace np := Nat.lt_of_lt_of_le np (below1 hb).size
  replace k0 := cell_next (below1 hb) nk k0
  replace k1 := cell_next (below1 hb) nk k1
  replace nk := Nat.lt_of_lt_of_le nk (below1 hb).size
  replace s20 := cell_next (below1 hb) ns2 s20
  replace s21 := cell_next (below1 hb) ns2 s21
  replace ns2 := Nat.lt_of_lt_of_le ns2 (below1 hb).size
  replace d20 := cell_next (below1 hb) nd2 d20
  replace d21 := cell_next (below1 hb) nd2 d21
  replace nd2 := Nat.lt_of_lt_of_le nd2 (below1 hb).size
  have p20 := cell_next hb (b := W16.heap.size) (o := 0) (by simp <;> omega) (v := some (.int .i64 p2L)) (by simp [go_sem])
  have p21 := cell_next hb (b := W16.heap.size) (o := 1) (by simp <;> omega) (v := some (.int .i64 p2H)) (by simp [go_sem])
  have np2 : W16.heap.size < W17.heap.size := by have := hb.size; simp at this; omega
  replace hB := hB.trans ((below1 hb).mono hB.size)
  clear hb
  generalize W16.heap.size = q17 at *
  go_wp2_with fail
  refine (K.out.i1 _).mono ?_
  rintro e W18 ⟨rfl, hb⟩
  replace X0 := cell_next (below1 hb) nX X0
  replace X1 := cell_next (below1 hb) nX X1
  replace nX := Nat.lt_of_lt_of_le nX (below1 hb).size
  replace Y0 := cell_next (below1 hb) nY Y0
  replace Y1 := cell_next (below1 hb) nY Y1
  replace nY := Nat.lt_of_lt_of_le nY (below1 hb).size
  replace L0 := cell_next (below1 hb) nL L0
  replace L1 := cell_next (below1 hb) nL L1
  replace nL := Nat.lt_of_lt_of_le nL (below1 hb).size
  replace s0 := cell_next (below1 hb) ns s0
  replace s1 := cell_next (below1 hb) ns s1
  replace ns := Nat.lt_of_lt_of_le ns (below1 hb).size
  replace d0 := cell_next (below1 hb) nd d0
  replace d1 := cell_next (below1 hb) nd d1
  replace nd := Nat.lt_of_lt_of_le nd (below1 hb).size
  replace p0 := cell_next (below1 hb) np p0
  replace p1 := cell_next (below1 hb) np p1
  replace np := Nat.lt_of_lt_of_le np (below1 hb).size
  replace k0 := cell_next (below1 hb) nk k0
  replace k1 := cell_next (below1 hb) nk k1
  replace nk := Nat.lt_of_lt_of_le nk (below1 hb).size
  replace s20 := cell_next (below1 hb) ns2 s20
  replace s21 := cell_next (below1 hb) ns2 s21
  replace ns2 := Nat.lt_of_lt_of_le ns2 (below1 hb).size
  replace d20 := cell_next (below1 hb) nd2 d20
  replace d21 := cell_next (below1 hb) nd2 d21
  replace nd2 := Nat.lt_of_lt_of_le nd2 (below1 hb).size
  replace p20 := cell_next (below1 hb) np2 p20
  replace p21 := cell_next (below1 hb) np2 p21
  replace np2 := Nat.lt_of_lt_of_le np2 (below1 hb).size
  have k20 := cell_next hb (b := W17.heap.size) (o := 0) (by simp <;> omega) (v := some (.int .i64 k2L)) (by simp [go_sem])
  have k21 := cell_next hb (b := W17.heap.size) (o := 1) (by simp <;> omega) (v := some (.int .i64 k2H)) (by simp [go_sem])
  have nk2 : W17.heap.size < W18.heap.size := by have := hb.size; simp at this; omega
  replace hB := hB.trans ((below1 hb).mono hB.size)
  clear hb
  generalize W17.heap.size = q18 at *
  go_wp2_with fail
  refine (K.out.i2 _).mono ?_
  rintro e W19 ⟨rfl, hb⟩
  replace X0 := cell_next hb nX X0
  replace X1 := cell_next hb nX X1
  replace nX := Nat.lt_of_lt_of_le nX hb.size
  replace Y0 := cell_next hb nY Y0
  replace Y1 := cell_next hb nY Y1
  replace nY := Nat.lt_of_lt_of_le nY hb.size
  replace L0 := cell_next hb nL L0
  replace L1 := cell_next hb nL L1
  replace nL := Nat.lt_of_lt_of_le nL hb.size
  replace s0 := cell_next hb ns s0
  replace s1 := cell_next hb ns s1
  replace ns := Nat.lt_of_lt_of_le ns hb.size
  replace d0 := cell_next hb nd d0
  replace d1 := cell_next hb nd d1
  replace nd := Nat.lt_of_lt_of_le nd hb.size
  replace p0 := cell_next hb np p0
  replace p1 := cell_next hb np p1
  replace np := Nat.lt_of_lt_of_le np hb.size
  replace k0 := cell_next hb nk k0
  replace k1 := cell_next hb nk k1
  replace nk := Nat.lt_of_lt_of_le nk hb.size
  replace s20 := cell_next hb ns2 s20
  replace s21 := cell_next hb ns2 s21
  replace ns2 := Nat.lt_of_lt_of_le ns2 hb.size
  replace d20 := cell_next hb nd2 d20
  replace d21 := cell_next hb nd2 d21
  replace nd2 := Nat.lt_of_lt_of_le nd2 hb.size
  replace p20 := cell_next hb np2 p20
  replace p21 := cell_next hb np2 p21
  replace np2 := Nat.lt_of_lt_of_le np2 hb.size
  replace k20 := cell_next hb nk2 k20
  replace k21 := cell_next hb nk2 k21
  replace nk2 := Nat.lt_of_lt_of_le nk2 hb.size
  replace hB := hB.trans (hb.mono hB.size)
  clear hb
  go_wp2_with fail
  refine (K.out.i3 _).mono ?_
  rintro e W20 ⟨rfl, hb⟩
  replace X0 := cell_next hb nX X0
  replace X1 := cell_next hb nX X1
  replace nX := Nat.lt_of_lt_of_le nX hb.size
  replace Y0 := cell_next hb nY Y0
  replace Y1 := cell_next hb nY Y1
  replace nY := Nat.lt_of_lt_of_le nY hb.size
  replace L0 := cell_next hb nL L0
  replace L1 := cell_next hb nL L1
  replace nL := Nat.lt_of_lt_of_le nL hb.size
  replace s0 := cell_next hb ns s0
  replace s1 := cell_next hb ns s1
  replace ns := Nat.lt_of_lt_of_le ns hb.size
  replace d0 := cell_next hb nd d0
  replace d1 := cell_next hb nd d1
  replace nd := Nat.lt_of_lt_of_le nd hb.size
  replace p0 := cell_next hb np p0
  replace p1 := cell_next hb np p1
  replace np := Nat.lt_of_lt_of_le np hb.size
  replace k0 := cell_next hb nk k0
  replace k1 := cell_next hb nk k1
  replace nk := Nat.lt_of_lt_of_le nk hb.size
  replace s20 := cell_next hb ns2 s20
  replace s21 := cell_next hb ns2 s21
  replace ns2 := Nat.lt_of_lt_of_le ns2 hb.size
  replace d20 := cell_next hb nd2 d20
  replace d21 := cell_next hb nd2 d21
  replace nd2 := Nat.lt_of_lt_of_le nd2 hb.size
  replace p20 := cell_next hb np2 p20
  replace p21 := cell_next hb np2 p21
  replace np2 := Nat.lt_of_lt_of_le np2 hb.size
  replace k20 := cell_next hb nk2 k20
  replace k21 := cell_next hb nk2 k21
  replace nk2 := Nat.lt_of_lt_of_le nk2 hb.size
  replace hB := hB.trans (hb.mono hB.size)
  clear hb
  go_wp2_with fail
  refine (K.out.i4 _).mono ?_
  rintro e W21 ⟨rfl, hb⟩
  replace X0 := cell_next hb nX X0
  replace X1 := cell_next hb nX X1
  replace nX := Nat.lt_of_lt_of_le nX hb.size
  replace Y0 := cell_next hb nY Y0
  replace Y1 := cell_next hb nY Y1
  replace nY := Nat.lt_of_lt_of_le nY hb.size
  replace L0 := cell_next hb nL L0
  replace L1 := cell_next hb nL L1
  replace nL := Nat.lt_of_lt_of_le nL hb.size
  replace s0 := cell_next hb ns s0
  replace s1 := cell_next hb ns s1
  replace ns := Nat.lt_of_lt_of_le ns hb.size
  replace d0 := cell_next hb nd d0
  replace d1 := cell_next hb nd d1
  replace nd := Nat.lt_of_lt_of_le nd hb.size
  replace p0 := cell_next hb np p0
  replace p1 := cell_next hb np p1
  replace np := Nat.lt_of_lt_of_le np hb.size
  replace k0 := cell_next hb nk k0
  replace k1 := cell_next hb nk k1
  replace nk := Nat.lt_of_lt_of_le nk hb.size
  replace s20 := cell_next hb ns2 s20
  replace s21 := cell_next hb ns2 s21
  replace ns2 := Nat.lt_of_lt_of_le ns2 hb.size
  replace d20 := cell_next hb nd2 d20
  replace d21 := cell_next hb nd2 d21
  replace nd2 := Nat.lt_of_lt_of_le nd2 hb.size
  replace p20 := cell_next hb np2 p20
  replace p21 := cell_next hb np2 p21
  replace np2 := Nat.lt_of_lt_of_le np2 hb.size
  replace k20 := cell_next hb nk2 k20
  replace k21 := cell_next hb nk2 k21
  replace nk2 := Nat.lt_of_lt_of_le nk2 hb.size
  replace hB := hB.trans (hb.mono hB.size)
  clear hb
  clear s20 s21 ns2
  clear d20 d21 nd2
  clear p20 p21 np2
  clear k20 k21 nk2
  clear s0 s1 ns
  clear d0 d1 nd
  clear p0 p1 np
  clear k0 k1 nk
  clear L0 L1 nL
  go_wp2_with fail
  refine (K.out.c22 _ _ (row2_at _ _ _ (by simp) _ _ _ _)).mono ?_
  rintro e W22 ⟨rfl, hb⟩
  replace X0 := cell_next (below1 hb) nX X0
  replace X1 := cell_next (below1 hb) nX X1
  replace nX := Nat.lt_of_lt_of_le nX (below1 hb).size
  replace Y0 := cell_next (below1 hb) nY Y0
  replace Y1 := cell_next (below1 hb) nY Y1
  replace nY := Nat.lt_of_lt_of_le nY (below1 hb).size
  replace hB := hB.trans ((below1 hb).mono hB.size)
  clear hb
  generalize W21.heap.size = q22 at *
  go_wp2_with fail
  refine (K.out.c23 _ _ (row2_at _ _ _ (by simp) _ _ _ _)).mono ?_
  rintro e W23 ⟨rfl, hb⟩
  replace X0 := cell_next (below2 hb) nX X0
  replace X1 := cell_next (below2 hb) nX X1
  replace nX := Nat.lt_of_lt_of_le nX (below2 hb).size
  replace Y0 := cell_next (below2 hb) nY Y0
  replace Y1 := cell_next (below2 hb) nY Y1
  replace nY := Nat.lt_of_lt_of_le nY (below2 hb).size
  have h0 := cell_next hb (b := W22.heap.size) (o := 0) (by simp <;> omega) (v := some (.int .i64 hL)) (by simp [go_sem])
  have h1 := cell_next hb (b := W22.heap.size) (o := 1) (by simp <;> omega) (v := some (.int .i64 hH)) (by simp [go_sem])
  have nh : W22.heap.size < W23.heap.size := by have := hb.size; simp at this; omega
  replace hB := hB.trans ((below2 hb).mono hB.size)
  clear hb
  generalize W22.heap.size = q23 at *
  go_wp2_with fail
  refine (K.out.i5 _).mono ?_
  rintro e W24 ⟨rfl, hb⟩
  replace X0 := cell_next (below1 hb) nX X0
  replace X1 := cell_next (below1 hb) nX X1
  replace nX := Nat.lt_of_lt_of_le nX (below1 hb).size
  replace Y0 := cell_next (below1 hb) nY Y0
  replace Y1 := cell_next (below1 hb) nY Y1
  replace nY := Nat.lt_of_lt_of_le nY (below1 hb).size
  replace h0 := cell_next (below1 hb) nh h0
  replace h1 := cell_next (below1 hb) nh h1
  replace nh := Nat.lt_of_lt_of_le nh (below1 hb).size
  have mt0 := cell_next hb (b := W23.heap.size) (o := 0) (by simp <;> omega) (v := some (.int .i64 xl)) (by simp [go_sem])
  have mt1 := cell_next hb (b := W23.heap.size) (o := 1) (by simp <;> omega) (v := some (.int .i64 xh)) (by simp [go_sem])
  have nmt : W23.heap.size < W24.heap.size := by have := hb.size; simp at this; omega
  replace hB := hB.trans ((below1 hb).mono hB.size)
  clear hb
  generalize W23.heap.size = q24 at *
  go_wp2_with fail
  refine (K.out.i6 _).mono ?_
  rintro e W25 ⟨rfl, hb⟩
  replace X0 := cell_next hb nX X0
  replace X1 := cell_next hb nX X1
  replace nX := Nat.lt_of_lt_of_le nX hb.size
  replace Y0 := cell_next hb nY Y0
  replace Y1 := cell_next hb nY Y1
  replace nY := Nat.lt_of_lt_of_le nY hb.size
  replace h0 := cell_next hb nh h0
  replace h1 := cell_next hb nh h1
  replace nh := Nat.lt_of_lt_of_le nh hb.size
  replace mt0 := cell_next hb nmt mt0
  replace mt1 := cell_next hb nmt mt1
  replace nmt := Nat.lt_of_lt_of_le nmt hb.size
  replace hB := hB.trans (hb.mono hB.size)
  clear hb
  go_wp2_with fail
  refine (known_any _).mono ?_
  rintro e W26 ⟨rfl, hb⟩
  replace X0 := cell_next hb nX X0
  replace X1 := cell_next hb nX X1
  replace nX := Nat.lt_of_lt_of_le nX hb.size
  replace Y0 := cell_next hb nY Y0
  replace Y1 := cell_next hb nY Y1
  replace nY := Nat.lt_of_lt_of_le nY hb.size
  replace h0 := cell_next hb nh h0
  replace h1 := cell_next hb nh h1
  replace nh := Nat.lt_of_lt_of_le nh hb.size
  replace mt0 := cell_next hb nmt mt0
  replace mt1 := cell_next hb nmt mt1
  replace nmt := Nat.lt_of_lt_of_le nmt hb.size
  replace hB := hB.trans (hb.mono hB.size)
  clear hb
  go_wp2_with fail
  go_ret
  exact ⟨rfl, hB⟩

end Go.Proofs.Ytgakniehfnegiaa
