/- The walk of the statement on all truths. -/
import Derived.Test.YtgakniehfnegiaaH1
namespace Go.Proofs.Ytgakniehfnegiaa
open Go.RowKit Go.Lib Go.Shelf
set_option linter.unusedVariables false
set_option linter.unusedSimpArgs false
attribute [local go_sem ↓] Go.wp_at_zero Go.wp_at_succ

theorem run_min2 {P : Program} (tys : Array TypeId) (ty : TypeId) (k : IntKind) (x y : Int) (w : World) : (Builtin.min_ tys ty #[.int k x, .int k y]).run P w = .ok (.int k (min x y)) w := by
  simp [Builtin.min_, Builtin.min2]
  split <;> omega
theorem run_max2 {P : Program} (tys : Array TypeId) (ty : TypeId) (k : IntKind) (x y : Int) (w : World) : (Builtin.max_ tys ty #[.int k x, .int k y]).run P w = .ok (.int k (max x y)) w := by
  simp [Builtin.max_, Builtin.max2]
  split <;> omega
theorem below5 {w w1 : World} {o p q r s : Obj} (h : Below (((((w.alloc o).alloc p).alloc q).alloc r).alloc s).heap.size (((((w.alloc o).alloc p).alloc q).alloc r).alloc s) w1) : Below w.heap.size w w1 := below1 (below4 h)
theorem row2_at (W : World) (T : TypeId) (g : Nat) (hg : g = W.heap.size) (a b c d : Int) : RowAt (W.alloc (.cells #[.int .i64 a, .int .i64 b, .int .i64 c, .int .i64 d] T)).heap.size (W.alloc (.cells #[.int .i64 a, .int .i64 b, .int .i64 c, .int .i64 d] T)) (.slice (some ⟨g, 0, none⟩) 2 2) [(a, b), (c, d)] := by
  subst hg
  refine ⟨_, _, rfl, Nat.le_refl _, fun _ => ⟨_, 0, rfl, by simp, fun k z hz => ?_⟩⟩
  rcases k with _ | _ | k
  · simp at hz; subst hz; exact ⟨cell_new _ _ _ _, cell_new _ _ _ _⟩
  · simp at hz; subst hz; exact ⟨cell_new _ _ _ _, cell_new _ _ _ _⟩
  · simp at hz

/-- the numbers m1 and so on, of which the ends of both ranges are made -/
structure Ends (a0 a1 b0 b1 m1 m2 m3 m4 xl xh yl yh : Int) : Prop where
  h1 : min a0 a1 = m1
  h2 : max a0 a1 = m2
  h3 : min b0 b1 = m3
  h4 : max b0 b1 = m4
  r1 : -2147483648 ≤ m1
  s1 : m1 ≤ 2147483647
  r2 : -2147483648 ≤ m2
  s2 : m2 ≤ 2147483647
  r3 : -2147483648 ≤ m3
  s3 : m3 ≤ 2147483647
  r4 : -2147483648 ≤ m4
  s4 : m4 ≤ 2147483647
  t1 : m1.tdiv 200 = xl
  t2 : m2.tdiv 200 = xh
  t3 : m3.tdiv 200 = yl
  t4 : m4.tdiv 200 = yh
/-- the calls of the walk -/
structure HC (p0 p1 xl xh yl yh m n d sL sH dL dH pL pH kL kH s2L s2H d2L d2H p2L p2H k2L k2H hL hH : Int) : Prop where
  c1 : ∀ w : World, Calls Try.prog 84 #[.agg #[.int .i64 xl, .int .i64 xh], .int .u32 p0] w fun e w' => e = .returned (.tuple #[.int .i64 m, .bool true]) ∧ Below w.heap.size w w'
  c2 : ∀ w : World, Calls Try.prog 84 #[.agg #[.int .i64 yl, .int .i64 yh], .int .u32 p1] w fun e w' => e = .returned (.tuple #[.int .i64 n, .bool true]) ∧ Below w.heap.size w w'
  c3 : ∀ (v : Value) (w : World), SetAt w.heap.size w v [(xl, xh), (yl, yh)] → Calls Try.prog 18 #[v] w fun e w' => e = .returned (.tuple #[.agg #[.int .i64 sL, .int .i64 sH], .int .i64 0]) ∧ Below w.heap.size w w'
  c4 : ∀ w : World, Calls Try.prog 25 #[.agg #[.int .i64 xl, .int .i64 xh], .agg #[.int .i64 yl, .int .i64 yh]] w fun e w' => e = .returned (.tuple #[.agg #[.int .i64 dL, .int .i64 dH], .int .i64 0]) ∧ Below w.heap.size w w'
  c5 : ∀ w : World, Calls Try.prog 31 #[.agg #[.int .i64 xl, .int .i64 xh], .agg #[.int .i64 yl, .int .i64 yh]] w fun e w' => e = .returned (.tuple #[.agg #[.int .i64 pL, .int .i64 pH], .int .i64 0]) ∧ Below w.heap.size w w'
  c6 : ∀ w : World, Calls Try.prog 29 #[.agg #[.int .i64 xl, .int .i64 xh], .int .i64 n, .int .i64 d] w fun e w' => e = .returned (.tuple #[.agg #[.int .i64 kL, .int .i64 kH], .int .i64 0]) ∧ Below w.heap.size w w'
  c7 : ∀ w : World, Calls Try.prog 85 #[.agg #[.int .i64 sL, .int .i64 sH], .int .i64 (m + n)] w fun e w' => e = .returned (.bool true) ∧ Below w.heap.size w w'
  c8 : ∀ w : World, Calls Try.prog 85 #[.agg #[.int .i64 dL, .int .i64 dH], .int .i64 (m - n)] w fun e w' => e = .returned (.bool true) ∧ Below w.heap.size w w'
  c9 : ∀ w : World, Calls Try.prog 85 #[.agg #[.int .i64 pL, .int .i64 pH], .int .i64 (m * n)] w fun e w' => e = .returned (.bool true) ∧ Below w.heap.size w w'
  c14 : ∀ (v : Value) (w : World), SetAt w.heap.size w v [(m, xh), (yl, yh)] → Calls Try.prog 18 #[v] w fun e w' => e = .returned (.tuple #[.agg #[.int .i64 s2L, .int .i64 s2H], .int .i64 0]) ∧ Below w.heap.size w w'
  c15 : ∀ w : World, Calls Try.prog 25 #[.agg #[.int .i64 m, .int .i64 xh], .agg #[.int .i64 yl, .int .i64 yh]] w fun e w' => e = .returned (.tuple #[.agg #[.int .i64 d2L, .int .i64 d2H], .int .i64 0]) ∧ Below w.heap.size w w'
  c16 : ∀ w : World, Calls Try.prog 31 #[.agg #[.int .i64 m, .int .i64 xh], .agg #[.int .i64 yl, .int .i64 yh]] w fun e w' => e = .returned (.tuple #[.agg #[.int .i64 p2L, .int .i64 p2H], .int .i64 0]) ∧ Below w.heap.size w w'
  c17 : ∀ w : World, Calls Try.prog 29 #[.agg #[.int .i64 m, .int .i64 xh], .int .i64 n, .int .i64 d] w fun e w' => e = .returned (.tuple #[.agg #[.int .i64 k2L, .int .i64 k2H], .int .i64 0]) ∧ Below w.heap.size w w'
  i1 : ∀ w : World, Calls Try.prog 86 #[.agg #[.int .i64 s2L, .int .i64 s2H], .agg #[.int .i64 sL, .int .i64 sH]] w fun e w' => e = .returned (.bool true) ∧ Below w.heap.size w w'
  i2 : ∀ w : World, Calls Try.prog 86 #[.agg #[.int .i64 d2L, .int .i64 d2H], .agg #[.int .i64 dL, .int .i64 dH]] w fun e w' => e = .returned (.bool true) ∧ Below w.heap.size w w'
  i3 : ∀ w : World, Calls Try.prog 86 #[.agg #[.int .i64 p2L, .int .i64 p2H], .agg #[.int .i64 pL, .int .i64 pH]] w fun e w' => e = .returned (.bool true) ∧ Below w.heap.size w w'
  i4 : ∀ w : World, Calls Try.prog 86 #[.agg #[.int .i64 k2L, .int .i64 k2H], .agg #[.int .i64 kL, .int .i64 kH]] w fun e w' => e = .returned (.bool true) ∧ Below w.heap.size w w'
  c22 : ∀ (v : Value) (w : World), RowAt w.heap.size w v [(xl, xh), (yl, yh)] → Calls Try.prog 20 #[v] w fun e w' => e = .returned (.tuple #[.agg #[.int .i64 hL, .int .i64 hH], .int .i64 0]) ∧ Below w.heap.size w w'
  c23 : ∀ (v : Value) (w : World), RowAt w.heap.size w v [(hL, hH), (xl, xh)] → Calls Try.prog 19 #[v] w fun e w' => e = .returned (.tuple #[.agg #[.int .i64 xl, .int .i64 xh], .int .i64 0]) ∧ Below w.heap.size w w'
  i5 : ∀ w : World, Calls Try.prog 86 #[.agg #[.int .i64 xl, .int .i64 xh], .agg #[.int .i64 hL, .int .i64 hH]] w fun e w' => e = .returned (.bool true) ∧ Below w.heap.size w w'
  i6 : ∀ w : World, Calls Try.prog 86 #[.agg #[.int .i64 yl, .int .i64 yh], .agg #[.int .i64 hL, .int .i64 hH]] w fun e w' => e = .returned (.bool true) ∧ Below w.heap.size w w'
/-- the numbers' sizes and how they lie -/
structure HN (p2 xl xh yl yh m n d sL sH dL dH pL pH kL kH s2L s2H d2L d2H p2L p2H k2L k2H hL hH : Int) : Prop where
  x1 : -11000000 ≤ xl
  x2 : xl ≤ m
  x3 : m ≤ xh
  x4 : xh ≤ 11000000
  y1 : -11000000 ≤ yl
  y2 : yl ≤ n
  y3 : n ≤ yh
  y4 : yh ≤ 11000000
  p1 : 0 ≤ p2
  p2' : p2 ≤ 4294967295
  hd : 1 + p2 % 1000 = d
  d1 : 1 ≤ d
  d2 : d ≤ 1000
  k1 : kL ≤ kH
  k2 : kL * d ≤ m * n
  k3 : m * n ≤ kH * d
  b1 : -1000000000000000 ≤ kL * d
  b2 : kL * d ≤ 1000000000000000
  b3 : -1000000000000000 ≤ kH * d
  b4 : kH * d ≤ 1000000000000000
  b5 : -1000000000000000 ≤ m * n
  b6 : m * n ≤ 1000000000000000

set_option maxRecDepth 40000 in
set_option maxHeartbeats 6000000 in
theorem holds_zero (a0 a1 b0 b1 p0 p1 p2 m1 m2 m3 m4 xl xh yl yh m n d sL sH dL dH pL pH kL kH s2L s2H d2L d2H p2L p2H k2L k2H hL hH : Int) (E : Ends a0 a1 b0 b1 m1 m2 m3 m4 xl xh yl yh) (hK : HC p0 p1 xl xh yl yh m n d sL sH dL dH pL pH kL kH s2L s2H d2L d2H p2L p2H k2L k2H hL hH) (N : HN p2 xl xh yl yh m n d sL sH dL dH pL pH kL kH s2L s2H d2L d2H p2L p2H k2L k2H hL hH) (hov : ∀ w : World, Calls Try.prog 33 #[.agg #[.int .i64 xl, .int .i64 xh], .agg #[.int .i64 yl, .int .i64 yh]] w fun e w' => e = .returned (.tuple #[.agg #[.int .i64 0, .int .i64 0], .int .i64 3]) ∧ Below w.heap.size w w') (hhy : ∀ w : World, Calls Try.prog 85 #[.agg #[.int .i64 yl, .int .i64 yh], .int .i64 0] w fun e w' => e = .returned (.bool true) ∧ Below w.heap.size w w') (w : World) :
    Calls Try.prog 11 #[.agg #[.int .i32 a0, .int .i32 a1], .agg #[.int .i32 b0, .int .i32 b1], .agg #[.int .u32 p0, .int .u32 p1, .int .u32 p2]] w fun e w' => e = .returned (.bool true) ∧ Below w.heap.size w w' := by
  have K := Lib.hid hK
  obtain ⟨h1, h2, h3, h4, r1, s1, r2, s2, r3, s3, r4, s4, t1, t2, t3, t4⟩ := E
  have H1 : ∀ tys ty w, (Builtin.min_ tys ty #[.int .i32 a0, .int .i32 a1]).run Try.prog w = .ok (.int .i32 m1) w := fun tys ty w => by rw [run_min2, h1]
  have H2 : ∀ tys ty w, (Builtin.max_ tys ty #[.int .i32 a0, .int .i32 a1]).run Try.prog w = .ok (.int .i32 m2) w := fun tys ty w => by rw [run_max2, h2]
  have H3 : ∀ tys ty w, (Builtin.min_ tys ty #[.int .i32 b0, .int .i32 b1]).run Try.prog w = .ok (.int .i32 m3) w := fun tys ty w => by rw [run_min2, h3]
  have H4 : ∀ tys ty w, (Builtin.max_ tys ty #[.int .i32 b0, .int .i32 b1]).run Try.prog w = .ok (.int .i32 m4) w := fun tys ty w => by rw [run_max2, h4]
  obtain ⟨x1, x2, x3, x4, y1, y2, y3, y4, pp1, pp2, hd, d1, d2, k1, k2, k3, b1', b2', b3', b4', b5', b6'⟩ := N
  have e1 : IntKind.i64.wrap (kL * d) = kL * d := IntWalk.i64_in _ (by omega)
  have e2 : IntKind.i64.wrap (kH * d) = kH * d := IntWalk.i64_in _ (by omega)
  have e3 : IntKind.i64.wrap (m * n) = m * n := IntWalk.i64_in _ (by omega)
  have g1 : decide (m * n < kL * d) = false := by simpa using k2
  have g2 : decide (kH * d < m * n) = false := by simpa using k3
  have g3 : decide (kH < kL) = false := by simpa using k1
  have HO := Lib.hid hov
  have HY := Lib.hid hhy
  clear hov hhy
  clear h1 h2 h3 h4 hK k2 k3 b1' b2' b3' b4' b5' b6'
  go_enter Try.func11, Try.ntmps11
  go_wp2_with fail
  refine (K.out.c1 _).mono ?_
  rintro e W1 ⟨rfl, hb⟩
  have P0 := cell_next hb (b := w.heap.size + 1 + 1) (o := 0) (by simp <;> omega) (v := some (.int .u32 p0)) (by simp [go_sem])
  have P1 := cell_next hb (b := w.heap.size + 1 + 1) (o := 1) (by simp <;> omega) (v := some (.int .u32 p1)) (by simp [go_sem])
  have P2 := cell_next hb (b := w.heap.size + 1 + 1) (o := 2) (by simp <;> omega) (v := some (.int .u32 p2)) (by simp [go_sem])
  have nP : w.heap.size + 1 + 1 < W1.heap.size := by have := hb.size; simp at this; omega
  have X0 := cell_next hb (b := w.heap.size + 1 + 1 + 1) (o := 0) (by simp <;> omega) (v := some (.int .i64 xl)) (by simp [go_sem])
  have X1 := cell_next hb (b := w.heap.size + 1 + 1 + 1) (o := 1) (by simp <;> omega) (v := some (.int .i64 xh)) (by simp [go_sem])
  have nX : w.heap.size + 1 + 1 + 1 < W1.heap.size := by have := hb.size; simp at this; omega
  have Y0 := cell_next hb (b := w.heap.size + 1 + 1 + 1 + 1) (o := 0) (by simp <;> omega) (v := some (.int .i64 yl)) (by simp [go_sem])
  have Y1 := cell_next hb (b := w.heap.size + 1 + 1 + 1 + 1) (o := 1) (by simp <;> omega) (v := some (.int .i64 yh)) (by simp [go_sem])
  have nY : w.heap.size + 1 + 1 + 1 + 1 < W1.heap.size := by have := hb.size; simp at this; omega
  have hB := (below5 hb)
  clear hb
  go_wp2_with fail
  refine (K.out.c2 _).mono ?_
  rintro e W2 ⟨rfl, hb⟩
  replace P0 := cell_next hb nP P0
  replace P1 := cell_next hb nP P1
  replace P2 := cell_next hb nP P2
  replace nP := Nat.lt_of_lt_of_le nP hb.size
  replace X0 := cell_next hb nX X0
  replace X1 := cell_next hb nX X1
  replace nX := Nat.lt_of_lt_of_le nX hb.size
  replace Y0 := cell_next hb nY Y0
  replace Y1 := cell_next hb nY Y1
  replace nY := Nat.lt_of_lt_of_le nY hb.size
  replace hB := hB.trans (hb.mono hB.size)
  clear hb
  go_wp2_with fail
  refine (K.out.c3 _ _ (row2_at _ _ _ (by simp) _ _ _ _).set).mono ?_
  rintro e W3 ⟨rfl, hb⟩
  replace P0 := cell_next (below2 hb) nP P0
  replace P1 := cell_next (below2 hb) nP P1
  replace P2 := cell_next (below2 hb) nP P2
  replace nP := Nat.lt_of_lt_of_le nP (below2 hb).size
  replace X0 := cell_next (below2 hb) nX X0
  replace X1 := cell_next (below2 hb) nX X1
  replace nX := Nat.lt_of_lt_of_le nX (below2 hb).size
  replace Y0 := cell_next (below2 hb) nY Y0
  replace Y1 := cell_next (below2 hb) nY Y1
  replace nY := Nat.lt_of_lt_of_le nY (below2 hb).size
  have L0 := cell_next hb (b := W2.heap.size) (o := 0) (by simp <;> omega) (v := some (.int .i64 m)) (by simp [go_sem])
  have L1 := cell_next hb (b := W2.heap.size) (o := 1) (by simp <;> omega) (v := some (.int .i64 xh)) (by simp [go_sem])
  have nL : W2.heap.size < W3.heap.size := by have := hb.size; simp at this; omega
  replace hB := hB.trans ((below2 hb).mono hB.size)
  clear hb
  generalize W2.heap.size = q3 at *
  clear P0 P1 P2 nP
  go_wp2_with fail
  refine (K.out.c4 _).mono ?_
  rintro e W4 ⟨rfl, hb⟩
  replace X0 := cell_next (below1 hb) nX X0
  replace X1 := cell_next (below1 hb) nX X1
  replace nX := Nat.lt_of_lt_of_le nX (below1 hb).size
  replace Y0 := cell_next (below1 hb) nY Y0
  replace Y1 := cell_next (below1 hb) nY Y1
  replace nY := Nat.lt_of_lt_of_le nY (below1 hb).size
  replace L0 := cell_next (below1 hb) nL L0
  replace L1 := cell_next (below1 hb) nL L1
  replace nL := Nat.lt_of_lt_of_le nL (below1 hb).size
  have s0 := cell_next hb (b := W3.heap.size) (o := 0) (by simp <;> omega) (v := some (.int .i64 sL)) (by simp [go_sem])
  have s1 := cell_next hb (b := W3.heap.size) (o := 1) (by simp <;> omega) (v := some (.int .i64 sH)) (by simp [go_sem])
  have ns : W3.heap.size < W4.heap.size := by have := hb.size; simp at this; omega
  replace hB := hB.trans ((below1 hb).mono hB.size)
  clear hb
  generalize W3.heap.size = q4 at *
  go_wp2_with fail
  refine (K.out.c5 _).mono ?_
  rintro e W5 ⟨rfl, hb⟩
  replace X0 := cell_next (below1 hb) nX X0
  replace X1 := cell_next (below1 hb) nX X1
  replace nX := Nat.lt_of_lt_of_le nX (below1 hb).size
  replace Y0 := cell_next (below1 hb) nY Y0
  replace Y1 := cell_next (below1 hb) nY Y1
  replace nY := Nat.lt_of_lt_of_le nY (below1 hb).size
  replace L0 := cell_next (below1 hb) nL L0
  replace L1 := cell_next (below1 hb) nL L1
  replace nL := Nat.lt_of_lt_of_le nL (below1 hb).size
  replace s0 := cell_next (below1 hb) ns s0
  replace s1 := cell_next (below1 hb) ns s1
  replace ns := Nat.lt_of_lt_of_le ns (below1 hb).size
  have d0 := cell_next hb (b := W4.heap.size) (o := 0) (by simp <;> omega) (v := some (.int .i64 dL)) (by simp [go_sem])
  have d1 := cell_next hb (b := W4.heap.size) (o := 1) (by simp <;> omega) (v := some (.int .i64 dH)) (by simp [go_sem])
  have nd : W4.heap.size < W5.heap.size := by have := hb.size; simp at this; omega
  replace hB := hB.trans ((below1 hb).mono hB.size)
  clear hb
  generalize W4.heap.size = q5 at *
  go_wp2_with fail
  refine (K.out.c6 _).mono ?_
  rintro e W6 ⟨rfl, hb⟩
  replace X0 := cell_next (below1 hb) nX X0
  replace X1 := cell_next (below1 hb) nX X1
  replace nX := Nat.lt_of_lt_of_le nX (below1 hb).size
  replace Y0 := cell_next (below1 hb) nY Y0
  replace Y1 := cell_next (below1 hb) nY Y1
  replace nY := Nat.lt_of_lt_of_le nY (below1 hb).size
  replace L0 := cell_next (below1 hb) nL L0
  replace L1 := cell_next (below1 hb) nL L1
  replace nL := Nat.lt_of_lt_of_le nL (below1 hb).size
  replace s0 := cell_next (below1 hb) ns s0
  replace s1 := cell_next (below1 hb) ns s1
  replace ns := Nat.lt_of_lt_of_le ns (below1 hb).size
  replace d0 := cell_next (below1 hb) nd d0
  replace d1 := cell_next (below1 hb) nd d1
  replace nd := Nat.lt_of_lt_of_le nd (below1 hb).size
  have p0 := cell_next hb (b := W5.heap.size) (o := 0) (by simp <;> omega) (v := some (.int .i64 pL)) (by simp [go_sem])
  have p1 := cell_next hb (b := W5.heap.size) (o := 1) (by simp <;> omega) (v := some (.int .i64 pH)) (by simp [go_sem])
  have np : W5.heap.size < W6.heap.size := by have := hb.size; simp at this; omega
  replace hB := hB.trans ((below1 hb).mono hB.size)
  clear hb
  generalize W5.heap.size = q6 at *
  go_wp2_with fail
  refine (K.out.c7 _).mono ?_
  rintro e W7 ⟨rfl, hb⟩
  replace X0 := cell_next (below1 hb) nX X0
  replace X1 := cell_next (below1 hb) nX X1
  replace nX := Nat.lt_of_lt_of_le nX (below1 hb).size
  replace Y0 := cell_next (below1 hb) nY Y0
  replace Y1 := cell_next (below1 hb) nY Y1
  replace nY := Nat.lt_of_lt_of_le nY (below1 hb).size
  replace L0 := cell_next (below1 hb) nL L0
  replace L1 := cell_next (below1 hb) nL L1
  replace nL := Nat.lt_of_lt_of_le nL (below1 hb).size
  replace s0 := cell_next (below1 hb) ns s0
  replace s1 := cell_next (below1 hb) ns s1
  replace ns := Nat.lt_of_lt_of_le ns (below1 hb).size
  replace d0 := cell_next (below1 hb) nd d0
  replace d1 := cell_next (below1 hb) nd d1
  replace nd := Nat.lt_of_lt_of_le nd (below1 hb).size
  replace p0 := cell_next (below1 hb) np p0
  replace p1 := cell_next (below1 hb) np p1
  replace np := Nat.lt_of_lt_of_le np (below1 hb).size
  have k0 := cell_next hb (b := W6.heap.size) (o := 0) (by simp <;> omega) (v := some (.int .i64 kL)) (by simp [go_sem])
  have k1 := cell_next hb (b := W6.heap.size) (o := 1) (by simp <;> omega) (v := some (.int .i64 kH)) (by simp [go_sem])
  have nk : W6.heap.size < W7.heap.size := by have := hb.size; simp at this; omega
  replace hB := hB.trans ((below1 hb).mono hB.size)
  clear hb
  generalize W6.heap.size = q7 at *
  go_wp2_with fail
  refine (K.out.c8 _).mono ?_
  rintro e W8 ⟨rfl, hb⟩
  replace X0 := cell_next hb nX X0
  replace X1 := cell_next hb nX X1
  replace nX := Nat.lt_of_lt_of_le nX hb.size
  replace Y0 := cell_next hb nY Y0
  replace Y1 := cell_next hb nY Y1
  replace nY := Nat.lt_of_lt_of_le nY hb.size
  replace L0 := cell_next hb nL L0
  replace L1 := cell_next hb nL L1
  replace nL := Nat.lt_of_lt_of_le nL hb.size
  replace s0 := cell_next hb ns s0
  replace s1 := cell_next hb ns s1
  replace ns := Nat.lt_of_lt_of_le ns hb.size
  replace d0 := cell_next hb nd d0
  replace d1 := cell_next hb nd d1
  replace nd := Nat.lt_of_lt_of_le nd hb.size
  replace p0 := cell_next hb np p0
  replace p1 := cell_next hb np p1
  replace np := Nat.lt_of_lt_of_le np hb.size
  replace k0 := cell_next hb nk k0
  replace k1 := cell_next hb nk k1
  replace nk := Nat.lt_of_lt_of_le nk hb.size
  replace hB := hB.trans (hb.mono hB.size)
  clear hb
  go_wp2_with fail
  refine (K.out.c9 _).mono ?_
  rintro e W9 ⟨rfl, hb⟩
  replace X0 := cell_next hb nX X0
  replace X1 := cell_next hb nX X1
  replace nX := Nat.lt_of_lt_of_le nX hb.size
  replace Y0 := cell_next hb nY Y0
  replace Y1 := cell_next hb nY Y1
  replace nY := Nat.lt_of_lt_of_le nY hb.size
  replace L0 := cell_next hb nL L0
  replace L1 := cell_next hb nL L1
  replace nL := Nat.lt_of_lt_of_le nL hb.size
  replace s0 := cell_next hb ns s0
  replace s1 := cell_next hb ns s1
  replace ns := Nat.lt_of_lt_of_le ns hb.size
  replace d0 := cell_next hb nd d0
  replace d1 := cell_next hb nd d1
  replace nd := Nat.lt_of_lt_of_le nd hb.size
  replace p0 := cell_next hb np p0
  replace p1 := cell_next hb np p1
  replace np := Nat.lt_of_lt_of_le np hb.size
  replace k0 := cell_next hb nk k0
  replace k1 := cell_next hb nk k1
  replace nk := Nat.lt_of_lt_of_le nk hb.size
  replace hB := hB.trans (hb.mono hB.size)
  clear hb
  go_wp2_with fail
  refine (HO.out _).mono ?_
  rintro e W10 ⟨rfl, hb⟩
  replace X0 := cell_next hb nX X0
  replace X1 := cell_next hb nX X1
  replace nX := Nat.lt_of_lt_of_le nX hb.size
  replace Y0 := cell_next hb nY Y0
  replace Y1 := cell_next hb nY Y1
  replace nY := Nat.lt_of_lt_of_le nY hb.size
  replace L0 := cell_next hb nL L0
  replace L1 := cell_next hb nL L1
  replace nL := Nat.lt_of_lt_of_le nL hb.size
  replace s0 := cell_next hb ns s0
  replace s1 := cell_next hb ns s1
  replace ns := Nat.lt_of_lt_of_le ns hb.size
  replace d0 := cell_next hb nd d0
  replace d1 := cell_next hb nd d1
  replace nd := Nat.lt_of_lt_of_le nd hb.size
  replace p0 := cell_next hb np p0
  replace p1 := cell_next hb np p1
  replace np := Nat.lt_of_lt_of_le np hb.size
  replace k0 := cell_next hb nk k0
  replace k1 := cell_next hb nk k1
  replace nk := Nat.lt_of_lt_of_le nk hb.size
  replace hB := hB.trans (hb.mono hB.size)
  clear hb
  go_wp2_with fail
  refine (HY.out _).mono ?_
  rintro e W11 ⟨rfl, hb⟩
  replace X0 := cell_next (below1 hb) nX X0
  replace X1 := cell_next (below1 hb) nX X1
  replace nX := Nat.lt_of_lt_of_le nX (below1 hb).size
  replace Y0 := cell_next (below1 hb) nY Y0
  replace Y1 := cell_next (below1 hb) nY Y1
  replace nY := Nat.lt_of_lt_of_le nY (below1 hb).size
  replace L0 := cell_next (below1 hb) nL L0
  replace L1 := cell_next (below1 hb) nL L1
  replace nL := Nat.lt_of_lt_of_le nL (below1 hb).size
  replace s0 := cell_next (below1 hb) ns s0
  replace s1 := cell_next (below1 hb) ns s1
  replace ns := Nat.lt_of_lt_of_le ns (below1 hb).size
  replace d0 := cell_next (below1 hb) nd d0
  replace d1 := cell_next (below1 hb) nd d1
  replace nd := Nat.lt_of_lt_of_le nd (below1 hb).size
  replace p0 := cell_next (below1 hb) np p0
  replace p1 := cell_next (below1 hb) np p1
  replace np := Nat.lt_of_lt_of_le np (below1 hb).size
  replace k0 := cell_next (below1 hb) nk k0
  replace k1 := cell_next (below1 hb) nk k1
  replace nk := Nat.lt_of_lt_of_le nk (below1 hb).size
  have q0 := cell_next hb (b := W10.heap.size) (o := 0) (by simp <;> omega) (v := some (.int .i64 0)) (by simp [go_sem])
  have q1 := cell_next hb (b := W10.heap.size) (o := 1) (by simp <;> omega) (v := some (.int .i64 0)) (by simp [go_sem])
  have nq : W10.heap.size < W11.heap.size := by have := hb.size; simp at this; omega
  replace hB := hB.trans ((below1 hb).mono hB.size)
  clear hb
  generalize W10.heap.size = q11 at *
  clear q0 q1 nq
  go_wp2_with fail
  refine (K.out.c14 _ _ (row2_at _ _ _ (by simp) _ _ _ _).set).mono ?_
  rintro e W12 ⟨rfl, hb⟩
  replace X0 := cell_next (below1 hb) nX X0
  replace X1 := cell_next (below1 hb) nX X1
  replace nX := Nat.lt_of_lt_of_le nX (below1 hb).size
  replace Y0 := cell_next (below1 hb) nY Y0
  replace Y1 := cell_next (below1 hb) nY Y1
  replace nY := Nat.lt_of_lt_of_le nY (below1 hb).size
  replace L0 := cell_next (below1 hb) nL L0
  replace L1 := cell_next (below1 hb) nL L1
  replace nL := Nat.lt_of_lt_of_le nL (below1 hb).size
  replace s0 := cell_next (below1 hb) ns s0
  replace s1 := cell_next (below1 hb) ns s1
  replace ns := Nat.lt_of_lt_of_le ns (below1 hb).size
  replace d0 := cell_next (below1 hb) nd d0
  replace d1 := cell_next (below1 hb) nd d1
  replace nd := Nat.lt_of_lt_of_le nd (below1 hb).size
  replace p0 := cell_next (below1 hb) np p0
  replace p1 := cell_next (below1 hb) np p1
  replace np := Nat.lt_of_lt_of_le np (below1 hb).size
  replace k0 := cell_next (below1 hb) nk k0
  replace k1 := cell_next (below1 hb) nk k1
  replace nk := Nat.lt_of_lt_of_le nk (below1 hb).size
  replace hB := hB.trans ((below1 hb).mono hB.size)
  clear hb
  generalize W11.heap.size = q12 at *
  go_wp2_with fail
  refine (K.out.c15 _).mono ?_
  rintro e W13 ⟨rfl, hb⟩
  replace X0 := cell_next (below1 hb) nX X0
  replace X1 := cell_next (below1 hb) nX X1
  replace nX := Nat.lt_of_lt_of_le nX (below1 hb).size
  replace Y0 := cell_next (below1 hb) nY Y0
  replace Y1 := cell_next (below1 hb) nY Y1
  replace nY := Nat.lt_of_lt_of_le nY (below1 hb).size
  replace L0 := cell_next (below1 hb) nL L0
  replace L1 := cell_next (below1 hb) nL L1
  replace nL := Nat.lt_of_lt_of_le nL (below1 hb).size
  replace s0 := cell_next (below1 hb) ns s0
  replace s1 := cell_next (below1 hb) ns s1
  replace ns := Nat.lt_of_lt_of_le ns (below1 hb).size
  replace d0 := cell_next (below1 hb) nd d0
  replace d1 := cell_next (below1 hb) nd d1
  replace nd := Nat.lt_of_lt_of_le nd (below1 hb).size
  replace p0 := cell_next (below1 hb) np p0
  replace p1 := cell_next (below1 hb) np p1
  replace np := Nat.lt_of_lt_of_le np (below1 hb).size
  replace k0 := cell_next (below1 hb) nk k0
  replace k1 := cell_next (below1 hb) nk k1
  replace nk := Nat.lt_of_lt_of_le nk (below1 hb).size
  have s20 := cell_next hb (b := W12.heap.size) (o := 0) (by simp <;> omega) (v := some (.int .i64 s2L)) (by simp [go_sem])
  have s21 := cell_next hb (b := W12.heap.size) (o := 1) (by simp <;> omega) (v := some (.int .i64 s2H)) (by simp [go_sem])
  have ns2 : W12.heap.size < W13.heap.size := by have := hb.size; simp at this; omega
  replace hB := hB.trans ((below1 hb).mono hB.size)
  clear hb
  generalize W12.heap.size = q13 at *
  go_wp2_with fail
  refine (K.out.c16 _).mono ?_
  rintro e W14 ⟨rfl, hb⟩
  replace X0 := cell_next (below1 hb) nX X0
  replace X1 := cell_next (below1 hb) nX X1
  replace nX := Nat.lt_of_lt_of_le nX (below1 hb).size
  replace Y0 := cell_next (below1 hb) nY Y0
  replace Y1 := cell_next (below1 hb) nY Y1
  replace nY := Nat.lt_of_lt_of_le nY (below1 hb).size
  replace L0 := cell_next (below1 hb) nL L0
  replace L1 := cell_next (below1 hb) nL L1
  replace nL := Nat.lt_of_lt_of_le nL (below1 hb).size
  replace s0 := cell_next (below1 hb) ns s0
  replace s1 := cell_next (below1 hb) ns s1
  replace ns := Nat.lt_of_lt_of_le ns (below1 hb).size
  replace d0 := cell_next (below1 hb) nd d0
  replace d1 := cell_next (below1 hb) nd d1
  replace nd := Nat.lt_of_lt_of_le nd (below1 hb).size
  replace p0 := cell_next (below1 hb) np p0
  replace p1 := cell_next (below1 hb) np p1
  replace np := Nat.lt_of_lt_of_le np (below1 hb).size
  replace k0 := cell_next (below1 hb) nk k0
  replace k1 := cell_next (below1 hb) nk k1
  replace nk := Nat.lt_of_lt_of_le nk (below1 hb).size
  replace s20 := cell_next (below1 hb) ns2 s20
  replace s21 := cell_next (below1 hb) ns2 s21
  replace ns2 := Nat.lt_of_lt_of_le ns2 (below1 hb).size
  have d20 := cell_next hb (b := W13.heap.size) (o := 0) (by simp <;> omega) (v := some (.int .i64 d2L)) (by simp [go_sem])
  have d21 := cell_next hb (b := W13.heap.size) (o := 1) (by simp <;> omega) (v := some (.int .i64 d2H)) (by simp [go_sem])
  have nd2 : W13.heap.size < W14.heap.size := by have := hb.size; simp at this; omega
  replace hB := hB.trans ((below1 hb).mono hB.size)
  clear hb
  generalize W13.heap.size = q14 at *
  go_wp2_with fail
  refine (K.out.c17 _).mono ?_
  rintro e W15 ⟨rfl, hb⟩
  replace X0 := cell_next (below1 hb) nX X0
  replace X1 := cell_next (below1 hb) nX X1
  replace nX := Nat.lt_of_lt_of_le nX (below1 hb).size
  replace Y0 := cell_next (below1 hb) nY Y0
  replace Y1 := cell_next (below1 hb) nY Y1
  replace nY := Nat.lt_of_lt_of_le nY (below1 hb).size
  replace L0 := cell_next (below1 hb) nL L0
  replace L1 := cell_next (below1 hb) nL L1
  replace nL := Nat.lt_of_lt_of_le nL (below1 hb).size
  replace s0 := cell_next (below1 hb) ns s0
  replace s1 := cell_next (below1 hb) ns s1
  replace ns := Nat.lt_of_lt_of_le ns (below1 hb).size
  replace d0 := cell_next (below1 hb) nd d0
  replace d1 := cell_next (below1 hb) nd d1
  replace nd := Nat.lt_of_lt_of_le nd (below1 hb).size
  replace p0 := cell_next (below1 hb) np p0
  replace p1 := cell_next (below1 hb) np p1
  replace np := Nat.lt_of_lt_of_le np (below1 hb).size
  replace k0 := cell_next (below1 hb) nk k0
  replace k1 := cell_next (below1 hb) nk k1
  replace nk := Nat.lt_of_lt_of_le nk (below1 hb).size
  replace s20 := cell_next (below1 hb) ns2 s20
  replace s21 := cell_next (below1 hb) ns2 s21
  replace ns2 := Nat.lt_of_lt_of_le ns2 (below1 hb).size
  replace d20 := cell_next (below1 hb) nd2 d20
  replace d21 := cell_next (below1 hb) nd2 d21
  replace nd2 := Nat.lt_of_lt_of_le nd2 (below1 hb).size
  have p20 := cell_next hb (b := W14.heap.size) (o := 0) (by simp <;> omega) (v := some (.int .i64 p2L)) (by simp [go_sem])
  have p21 := cell_next hb (b := W14.heap.size) (o := 1) (by simp <;> omega) (v := some (.int .i64 p2H)) (by simp [go_sem])
  have np2 : W14.heap.size < W15.heap.size := by have := hb.size; simp at this; omega
  replace hB := hB.trans ((below1 hb).mono hB.size)
  clear hb
  generalize W14.heap.size = q15 at *
  go_wp2_with fail
  refine (K.out.i1 _).mono ?_
  rintro e W16 ⟨rfl, hb⟩
  replace X0 := cell_next (below1 hb) nX X0
  replace X1 := cell_next (below1 hb) nX X1
  replace nX := Nat.lt_of_lt_of_le nX (below1 hb).size
  replace Y0 := cell_next (below1 hb) nY Y0
  replace Y1 := cell_next (below1 hb) nY Y1
  replace nY := Nat.lt_of_lt_of_le nY (below1 hb).size
  replace L0 := cell_next (below1 hb) nL L0
  replace L1 := cell_next (below1 hb) nL L1
  replace nL := Nat.lt_of_lt_of_le nL (below1 hb).size
  replace s0 := cell_next (below1 hb) ns s0
  replace s1 := cell_next (below1 hb) ns s1
  replace ns := Nat.lt_of_lt_of_le ns (below1 hb).size
  replace d0 := cell_next (below1 hb) nd d0
  replace d1 := cell_next (below1 hb) nd d1
  replace nd := Nat.lt_of_lt_of_le nd (below1 hb).size
  replace p0 := cell_next (below1 hb) np p0
  replace p1 := cell_next (below1 hb) np p1
  replace np := Nat.lt_of_lt_of_le np (below1 hb).size
  replace k0 := cell_next (below1 hb) nk k0
  replace k1 := cell_next (below1 hb) nk k1
  replace nk := Nat.lt_of_lt_of_le nk (below1 hb).size
  replace s20 := cell_next (below1 hb) ns2 s20
  replace s21 := cell_next (below1 hb) ns2 s21
  replace ns2 := Nat.lt_of_lt_of_le ns2 (below1 hb).size
  replace d20 := cell_next (below1 hb) nd2 d20
  replace d21 := cell_next (below1 hb) nd2 d21
  replace nd2 := Nat.lt_of_lt_of_le nd2 (below1 hb).size
  replace p20 := cell_next (below1 hb) np2 p20
  replace p21 := cell_next (below1 hb) np2 p21
  replace np2 := Nat.lt_of_lt_of_le np2 (below1 hb).size
  have k20 := cell_next hb (b := W15.heap.size) (o := 0) (by simp <;> omega) (v := some (.int .i64 k2L)) (by simp [go_sem])
  have k21 := cell_next hb (b := W15.heap.size) (o := 1) (by simp <;> omega) (v := some (.int .i64 k2H)) (by simp [go_sem])
  have nk2 : W15.heap.size < W16.heap.size := by have := hb.size; simp at this; omega
  replace hB := hB.trans ((below1 hb).mono hB.size)
  clear hb
  generalize W15.heap.size = q16 at *
  go_wp2_with fail
  refine (K.out.i2 _).mono ?_
  rintro e W17 ⟨rfl, hb⟩
  replace X0 := cell_next hb nX X0
  replace X1 := cell_next hb nX X1
  replace nX := Nat.lt_of_lt_of_le nX hb.size
  replace Y0 := cell_next hb nY Y0
  replace Y1 := cell_next hb nY Y1
  replace nY := Nat.lt_of_lt_of_le nY hb.size
  replace L0 := cell_next hb nL L0
  replace L1 := cell_next hb nL L1
  replace nL := Nat.lt_of_lt_of_le nL hb.size
  replace s0 := cell_next hb ns s0
  replace s1 := cell_next hb ns s1
  replace ns := Nat.lt_of_lt_of_le ns hb.size
  replace d0 := cell_next hb nd d0
  replace d1 := cell_next hb nd d1
  replace nd := Nat.lt_of_lt_of_le nd hb.size
  replace p0 := cell_next hb np p0
  replace p1 := cell_next hb np p1
  replace np := Nat.lt_of_lt_of_le np hb.size
  replace k0 := cell_next hb nk k0
  replace k1 := cell_next hb nk k1
  replace nk := Nat.lt_of_lt_of_le nk hb.size
  replace s20 := cell_next hb ns2 s20
  replace s21 := cell_next hb ns2 s21
  replace ns2 := Nat.lt_of_lt_of_le ns2 hb.size
  replace d20 := cell_next hb nd2 d20
  replace d21 := cell_next hb nd2 d21
  replace nd2 := Nat.lt_of_lt_of_le nd2 hb.size
  replace p20 := cell_next hb np2 p20
  replace p21 := cell_next hb np2 p21
  replace np2 := Nat.lt_of_lt_of_le np2 hb.size
  replace k20 := cell_next hb nk2 k20
  replace k21 := cell_next hb nk2 k21
  replace nk2 := Nat.lt_of_lt_of_le nk2 hb.size
  replace hB := hB.trans (hb.mono hB.size)
  clear hb
  go_wp2_with fail
  refine (K.out.i3 _).mono ?_
  rintro e W18 ⟨rfl, hb⟩
  replace X0 := cell_next hb nX X0
  replace X1 := cell_next hb nX X1
  replace nX := Nat.lt_of_lt_of_le nX hb.size
  replace Y0 := cell_next hb nY Y0
  replace Y1 := cell_next hb nY Y1
  replace nY := Nat.lt_of_lt_of_le nY hb.size
  replace L0 := cell_next hb nL L0
  replace L1 := cell_next hb nL L1
  replace nL := Nat.lt_of_lt_of_le nL hb.size
  replace s0 := cell_next hb ns s0
  replace s1 := cell_next hb ns s1
  replace ns := Nat.lt_of_lt_of_le ns hb.size
  replace d0 := cell_next hb nd d0
  replace d1 := cell_next hb nd d1
  replace nd := Nat.lt_of_lt_of_le nd hb.size
  replace p0 := cell_next hb np p0
  replace p1 := cell_next hb np p1
  replace np := Nat.lt_of_lt_of_le np hb.size
  replace k0 := cell_next hb nk k0
  replace k1 := cell_next hb nk k1
  replace nk := Nat.lt_of_lt_of_le nk hb.size
  replace s20 := cell_next hb ns2 s20
  replace s21 := cell_next hb ns2 s21
  replace ns2 := Nat.lt_of_lt_of_le ns2 hb.size
  replace d20 := cell_next hb nd2 d20
  replace d21 := cell_next hb nd2 d21
  replace nd2 := Nat.lt_of_lt_of_le nd2 hb.size
  replace p20 := cell_next hb np2 p20
  replace p21 := cell_next hb np2 p21
  replace np2 := Nat.lt_of_lt_of_le np2 hb.size
  replace k20 := cell_next hb nk2 k20
  replace k21 := cell_next hb nk2 k21
  replace nk2 := Nat.lt_of_lt_of_le nk2 hb.size
  replace hB := hB.trans (hb.mono hB.size)
  clear hb
  go_wp2_with fail
  refine (K.out.i4 _).mono ?_
  rintro e W19 ⟨rfl, hb⟩
  replace X0 := cell_next hb nX X0
  replace X1 := cell_next hb nX X1
  replace nX := Nat.lt_of_lt_of_le nX hb.size
  replace Y0 := cell_next hb nY Y0
  replace Y1 := cell_next hb nY Y1
  replace nY := Nat.lt_of_lt_of_le nY hb.size
  replace L0 := cell_next hb nL L0
  replace L1 := cell_next hb nL L1
  replace nL := Nat.lt_of_lt_of_le nL hb.size
  replace s0 := cell_next hb ns s0
  replace s1 := cell_next hb ns s1
  replace ns := Nat.lt_of_lt_of_le ns hb.size
  replace d0 := cell_next hb nd d0
  replace d1 := cell_next hb nd d1
  replace nd := Nat.lt_of_lt_of_le nd hb.size
  replace p0 := cell_next hb np p0
  replace p1 := cell_next hb np p1
  replace np := Nat.lt_of_lt_of_le np hb.size
  replace k0 := cell_next hb nk k0
  replace k1 := cell_next hb nk k1
  replace nk := Nat.lt_of_lt_of_le nk hb.size
  replace s20 := cell_next hb ns2 s20
  replace s21 := cell_next hb ns2 s21
  replace ns2 := Nat.lt_of_lt_of_le ns2 hb.size
  replace d20 := cell_next hb nd2 d20
  replace d21 := cell_next hb nd2 d21
  replace nd2 := Nat.lt_of_lt_of_le nd2 hb.size
  replace p20 := cell_next hb np2 p20
  replace p21 := cell_next hb np2 p21
  replace np2 := Nat.lt_of_lt_of_le np2 hb.size
  replace k20 := cell_next hb nk2 k20
  replace k21 := cell_next hb nk2 k21
  replace nk2 := Nat.lt_of_lt_of_le nk2 hb.size
  replace hB := hB.trans (hb.mono hB.size)
  clear hb
  clear s20 s21 ns2
  clear d20 d21 nd2
  clear p20 p21 np2
  clear k20 k21 nk2
  clear s0 s1 ns
  clear d0 d1 nd
  clear p0 p1 np
  clear k0 k1 nk
  clear L0 L1 nL
  go_wp2_with fail
  refine (K.out.c22 _ _ (row2_at _ _ _ (by simp) _ _ _ _)).mono ?_
  rintro e W20 ⟨rfl, hb⟩
  replace X0 := cell_next (below1 hb) nX X0
  replace X1 := cell_next (below1 hb) nX X1
  replace nX := Nat.lt_of_lt_of_le nX (below1 hb).size
  replace Y0 := cell_next (below1 hb) nY Y0
  replace Y1 := cell_next (below1 hb) nY Y1
  replace nY := Nat.lt_of_lt_of_le nY (below1 hb).size
  replace hB := hB.trans ((below1 hb).mono hB.size)
  clear hb
  generalize W19.heap.size = q20 at *
  go_wp2_with fail
  refine (K.out.c23 _ _ (row2_at _ _ _ (by simp) _ _ _ _)).mono ?_
  rintro e W21 ⟨rfl, hb⟩
  replace X0 := cell_next (below2 hb) nX X0
  replace X1 := cell_next (below2 hb) nX X1
  replace nX := Nat.lt_of_lt_of_le nX (below2 hb).size
  replace Y0 := cell_next (below2 hb) nY Y0
  replace Y1 := cell_next (below2 hb) nY Y1
  replace nY := Nat.lt_of_lt_of_le nY (below2 hb).size
  have h0 := cell_next hb (b := W20.heap.size) (o := 0) (by simp <;> omega) (v := some (.int .i64 hL)) (by simp [go_sem])
  have h1 := cell_next hb (b := W20.heap.size) (o := 1) (by simp <;> omega) (v := some (.int .i64 hH)) (by simp [go_sem])
  have nh : W20.heap.size < W21.heap.size := by have := hb.size; simp at this; omega
  replace hB := hB.trans ((below2 hb).mono hB.size)
  clear hb
  generalize W20.heap.size = q21 at *
  go_wp2_with fail
  refine (K.out.i5 _).mono ?_
  rintro e W22 ⟨rfl, hb⟩
  replace X0 := cell_next (below1 hb) nX X0
  replace X1 := cell_next (below1 hb) nX X1
  replace nX := Nat.lt_of_lt_of_le nX (below1 hb).size
  replace Y0 := cell_next (below1 hb) nY Y0
  replace Y1 := cell_next (below1 hb) nY Y1
  replace nY := Nat.lt_of_lt_of_le nY (below1 hb).size
  replace h0 := cell_next (below1 hb) nh h0
  replace h1 := cell_next (below1 hb) nh h1
  replace nh := Nat.lt_of_lt_of_le nh (below1 hb).size
  have mt0 := cell_next hb (b := W21.heap.size) (o := 0) (by simp <;> omega) (v := some (.int .i64 xl)) (by simp [go_sem])
  have mt1 := cell_next hb (b := W21.heap.size) (o := 1) (by simp <;> omega) (v := some (.int .i64 xh)) (by simp [go_sem])
  have nmt : W21.heap.size < W22.heap.size := by have := hb.size; simp at this; omega
  replace hB := hB.trans ((below1 hb).mono hB.size)
  clear hb
  generalize W21.heap.size = q22 at *
  go_wp2_with fail
  refine (K.out.i6 _).mono ?_
  rintro e W23 ⟨rfl, hb⟩
  replace X0 := cell_next hb nX X0
  replace X1 := cell_next hb nX X1
  replace nX := Nat.lt_of_lt_of_le nX hb.size
  replace Y0 := cell_next hb nY Y0
  replace Y1 := cell_next hb nY Y1
  replace nY := Nat.lt_of_lt_of_le nY hb.size
  replace h0 := cell_next hb nh h0
  replace h1 := cell_next hb nh h1
  replace nh := Nat.lt_of_lt_of_le nh hb.size
  replace mt0 := cell_next hb nmt mt0
  replace mt1 := cell_next hb nmt mt1
  replace nmt := Nat.lt_of_lt_of_le nmt hb.size
  replace hB := hB.trans (hb.mono hB.size)
  clear hb
  go_wp2_with fail
  refine (known_any _).mono ?_
  rintro e W24 ⟨rfl, hb⟩
  replace X0 := cell_next hb nX X0
  replace X1 := cell_next hb nX X1
  replace nX := Nat.lt_of_lt_of_le nX hb.size
  replace Y0 := cell_next hb nY Y0
  replace Y1 := cell_next hb nY Y1
  replace nY := Nat.lt_of_lt_of_le nY hb.size
  replace h0 := cell_next hb nh h0
  replace h1 := cell_next hb nh h1
  replace nh := Nat.lt_of_lt_of_le nh hb.size
  replace mt0 := cell_next hb nmt mt0
  replace mt1 := cell_next hb nmt mt1
  replace nmt := Nat.lt_of_lt_of_le nmt hb.size
  replace hB := hB.trans (hb.mono hB.size)
  clear hb
  go_wp2_with fail
  go_ret
  exact ⟨rfl, hB⟩

end Go.Proofs.Ytgakniehfnegiaa
