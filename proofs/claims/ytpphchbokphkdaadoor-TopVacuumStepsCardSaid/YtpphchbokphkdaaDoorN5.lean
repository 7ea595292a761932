/- Contracts: losses of pipes, and the vacuum behind one. -/
import Derived.Test.YtpphchbokphkdaaDoorN4
namespace Go.Proofs.YtpphchbokphkdaaDoor
open Go.RowKit Go.Lib Go.Shelf
set_option linter.unusedVariables false
set_option linter.unusedSimpArgs false
attribute [local go_sem ↓] Go.wp_at_zero Go.wp_at_succ

set_option maxRecDepth 20000 in
set_option maxHeartbeats 1000000 in
theorem loss_ok (p : Pp) (f : Int) (hp : pvB p 60 = true) (f1 : 0 ≤ f) (f2 : f ≤ 60000000000) (w : World) :
    Calls Tryd.prog 26 #[.agg #[.int .i64 p.pa, .int .i64 p.ln, .int .i64 p.bo, .int .i64 p.dr, .int .i64 p.ta], .int .i64 f] w fun e w' => e = .returned (.int .i64 (lossV p f)) ∧ Below w.heap.size w w' := by
  obtain ⟨_, ⟨l1, l2⟩, ⟨b1, b2⟩, ⟨d1, d2⟩, _⟩ := pvB_of hp
  obtain ⟨y1, y2⟩ := by_bd b1 b2
  obtain ⟨m1, m2⟩ := lf_bd l1 l2 f1 f2
  have hx := lossV_bd hp f1 f2
  have E : Hid (lossV p f = (p.ln * f + 10000 * p.bo * p.bo - 1) / (10000 * p.bo * p.bo) + 10 * max 0 (-p.dr)) := Lib.hid rfl
  generalize lossV p f = re at *
  obtain ⟨pa, ln, bo, dr, ta⟩ := p
  dsimp only at *
  clear hp
  obtain ⟨y, hy⟩ : ∃ y, 10000 * bo * bo = y := ⟨_, rfl⟩
  obtain ⟨m, hm⟩ : ∃ m, ln * f = m := ⟨_, rfl⟩
  rw [hy] at y1 y2 E
  rw [hm] at m1 m2 E
  have w1 : IntKind.i64.wrap (ln * f) = m := by rw [hm]; exact IntWalk.i64_in _ (by omega)
  have w2 : IntKind.i64.wrap (10000 * bo * bo) = y := by rw [hy]; exact IntWalk.i64_in _ (by omega)
  have w3 : IntKind.i64.wrap (-dr) = -dr := IntWalk.i64_in _ (by omega)
  have w4 : IntKind.i64.wrap (m + y) = m + y := IntWalk.i64_in _ (by omega)
  have w5 : IntKind.i64.wrap (m + y - 1) = m + y - 1 := IntWalk.i64_in _ (by omega)
  have H1 : ∀ tys ty w, (Builtin.max_ tys ty #[.int .i64 0, .int .i64 (-dr)]).run Tryd.prog w = .ok (.int .i64 (max 0 (-dr))) w := fun tys ty w => rrun_max2 tys ty .i64 0 (-dr) w
  have hd : (m + y - 1).tdiv y = (m + y - 1) / y := Int.tdiv_eq_ediv_of_nonneg (by omega)
  obtain ⟨q, hq⟩ : ∃ q, (m + y - 1) / y = q := ⟨_, rfl⟩
  rw [hq] at hd E
  have q1 : 0 ≤ q := by rw [← hq]; exact Int.ediv_nonneg (by omega) (by omega)
  have q2 : q ≤ 100000000000 := by
    have h1 := Int.mul_ediv_self_le (x := m + y - 1) (k := y) (by omega)
    rw [hq] at h1
    have h2 : 160000 * q ≤ y * q := Int.mul_le_mul_of_nonneg_right y1 q1
    omega
  have hy0 : (y == 0) = false := by simp; omega
  have x1 : 0 ≤ max 0 (-dr) := by omega
  have x2 : max 0 (-dr) ≤ 10000 := by omega
  generalize max 0 (-dr) = mx at *
  have w6 : IntKind.i64.wrap (10 * mx) = 10 * mx := IntWalk.i64_in _ (by omega)
  have w7 : IntKind.i64.wrap (q + 10 * mx) = q + 10 * mx := IntWalk.i64_in _ (by omega)
  have w8 : IntKind.i64.wrap q = q := IntWalk.i64_in _ (by omega)
  clear hy hm hq hx
  go_enter Tryd.func26, Tryd.ntmps26
  go_wp2_with fail
  go_region
  go_wp2_with fail
  go_ret
  exact ⟨ret_int E.out.symm, ((Below.refl _ _).alloc (Nat.le_refl _) _).drew⟩

set_option maxRecDepth 20000 in
set_option maxHeartbeats 1000000 in
theorem vacuumBehind_ok (p : Pp) (v f : Int) (hp : pvB p 60 = true) (v1 : 0 ≤ v) (v2 : v ≤ 10000) (f1 : 0 ≤ f) (f2 : f ≤ 60000000000) (w : World) :
    Calls Tryd.prog 19 #[.agg #[.int .i64 p.pa, .int .i64 p.ln, .int .i64 p.bo, .int .i64 p.dr, .int .i64 p.ta], .int .i64 v, .int .i64 f] w fun e w' => e = .returned (.int .i64 (max 0 (v - lossV p f))) ∧ Below w.heap.size w w' := by
  have c1 := Lib.hid (loss_ok p f hp f1 f2)
  obtain ⟨h1, h2⟩ := lossV_bd hp f1 f2
  generalize lossV p f = x at *
  have H1 : ∀ tys ty w, (Builtin.max_ tys ty #[.int .i64 0, .int .i64 (v - x)]).run Tryd.prog w = .ok (.int .i64 (max 0 (v - x))) w := fun tys ty w => rrun_max2 tys ty .i64 0 (v - x) w
  clear hp
  go_enter Tryd.func19, Tryd.ntmps19
  go_wp2_with fail
  refine (c1.out _).mono ?_
  rintro e w1 ⟨rfl, hb⟩
  have hB := below1 hb
  clear hb
  go_wp2_with fail
  go_ret
  exact ⟨rfl, hB⟩

set_option maxRecDepth 20000 in
set_option maxHeartbeats 1000000 in
theorem lossCall_ok (p : Pp) (f : Int) (hp : pvB p 60 = true) (f1 : 0 ≤ f) (f2 : f ≤ 60000000000) (w : World) :
    Calls Tryd.prog 11 #[.agg #[.int .i64 p.pa, .int .i64 p.ln, .int .i64 p.bo, .int .i64 p.dr, .int .i64 p.ta], .int .i64 f] w fun e w' => e = .returned (.tuple #[.int .i64 (lossV p f), .int .i64 0]) ∧ Below w.heap.size w w' := by
  have c1 := Lib.hid (validPipe_any p 60)
  rw [hp] at c1
  unfold Pp.val at c1
  have c2 : Hid (∀ w : World, Calls Tryd.prog 25 #[.int .i64 f, .int .i64 0, .int .i64 60000000000] w fun e w' => e = .returned (.bool true) ∧ w = w') := Lib.hid fun w => (in_any f 0 60000000000 w).mono fun e w' ⟨he, hw⟩ => ⟨by rw [he]; simp [f1, f2], hw⟩
  have c3 := Lib.hid (loss_ok p f hp f1 f2)
  generalize lossV p f = x at *
  obtain ⟨pa, ln, bo, dr, ta⟩ := p
  dsimp only at *
  clear hp f1 f2
  go_enter Tryd.func11, Tryd.ntmps11
  go_wp2_with fail
  refine (c1.out _).mono ?_
  rintro e w1 ⟨rfl, hb⟩
  have a0 := cell_next hb (b := w.heap.size) (o := 0) (by simp) (v := some (.int .i64 pa)) (by simp [go_sem])
  have a1 := cell_next hb (b := w.heap.size) (o := 1) (by simp) (v := some (.int .i64 ln)) (by simp [go_sem])
  have a2 := cell_next hb (b := w.heap.size) (o := 2) (by simp) (v := some (.int .i64 bo)) (by simp [go_sem])
  have a3 := cell_next hb (b := w.heap.size) (o := 3) (by simp) (v := some (.int .i64 dr)) (by simp [go_sem])
  have a4 := cell_next hb (b := w.heap.size) (o := 4) (by simp) (v := some (.int .i64 ta)) (by simp [go_sem])
  have hB := below1 hb
  clear hb
  go_wp2_with fail
  refine (c2.out _).mono ?_
  rintro e w2 ⟨rfl, rfl⟩
  go_wp2_with fail
  refine (c3.out _).mono ?_
  rintro e w3 ⟨rfl, hb⟩
  replace hB := hB.trans (hb.mono hB.size)
  clear hb
  go_wp2_with fail
  go_ret2
  exact ⟨rfl, hB⟩
end Go.Proofs.YtpphchbokphkdaaDoor
