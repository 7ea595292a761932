/- The walk of the statement on boiling: the Go text returns true. -/
import Derived.Test.YtgakniehfnegiaaK2
import Derived.Test.YtgakniehfnegiaaP3
namespace Go.Proofs.Ytgakniehfnegiaa
open Go.RowKit Go.Lib Go.Shelf
set_option linter.unusedVariables false
set_option linter.unusedSimpArgs false
attribute [local go_sem ↓] Go.wp_at_zero Go.wp_at_succ

theorem spB_mk {a s : Int} (h1 : 0 ≤ a) (h2 : a ≤ 1000000000000) (h3 : 0 ≤ s) (h4 : s ≤ 1000000000000) : spB a s = true := by simp [spB]; omega
theorem cbE_zero {a b : Int} (h1 : 0 ≤ a) (h2 : a ≤ 1000000000000) (b0 : 1 ≤ b) (b1 : b ≤ 10000) : cbE a 0 b = 7 := by
  unfold cbE
  rw [spB_mk h1 h2 (by omega) (by omega), if_pos rfl, if_neg (by omega), if_pos rfl]
theorem cbE_pos {a s b : Int} (h1 : 0 ≤ a) (h2 : a ≤ 1000000000000) (h3 : 0 < s) (h4 : s ≤ 1000000000000) (b0 : 1 ≤ b) (b1 : b ≤ 10000) : cbE a s b = 0 := by
  unfold cbE
  rw [spB_mk h1 h2 (by omega) h4, if_pos rfl, if_neg (by omega), if_neg (by omega)]
theorem boil_zero {a b : Int} (h1 : 0 ≤ a) (h2 : a ≤ 1000000000000) (b0 : 1 ≤ b) (b1 : b ≤ 10000) : boilW a 0 b = 0 ∧ boilE a 0 b = 7 ∧ thinW a 0 b = 0 ∧ thinE a 0 b = 7 := by
  have h := cbE_zero h1 h2 b0 b1
  have hE : thinE a 0 b = 7 := by unfold thinE; rw [h, if_neg (by omega)]
  refine ⟨?_, ?_, ?_, hE⟩
  · unfold boilW; rw [h, if_neg (by omega)]
  · unfold boilE; rw [h]
  · unfold thinW; rw [hE, if_neg (by omega)]
theorem boil_pos {a s b : Int} (h1 : 0 ≤ a) (h2 : a ≤ 1000000000000) (h3 : 0 < s) (h4 : s ≤ 1000000000000) (b0 : 1 ≤ b) (b1 : b ≤ 10000) : boilW a s b = max 0 (a + s - s * 10000 / b) ∧ boilE a s b = 0 ∧
    thinE a s b = (if s * 10000 / b - (a + s) < 0 then 7 else if 1000000000000 < a + (s * 10000 / b - (a + s)) then 10 else 0) ∧ thinW a s b = if thinE a s b = 0 then s * 10000 / b - (a + s) else 0 := by
  have h := cbE_pos h1 h2 h3 h4 b0 b1
  refine ⟨?_, ?_, ?_, ?_⟩
  · unfold boilW; rw [h, if_pos rfl]
  · unfold boilE; rw [h]
  · unfold thinE thinM; rw [h, if_pos rfl]
  · unfold thinW thinM; rfl
theorem brix_pos {a s : Int} (h1 : 0 ≤ a) (h2 : a ≤ 1000000000000) (h3 : 0 < s) (h4 : s ≤ 1000000000000) : brE a s = 0 ∧ brL a s = s * 10000 / (a + s) ∧ brH a s = -(-(s * 10000) / (a + s)) := by
  have hE : brE a s = 0 := by unfold brE; rw [spB_mk h1 h2 (by omega) h4, if_pos rfl, if_neg (by omega)]
  have hq := q_pos (a := s) (b := 10000) (c := a + s) (by omega) (by
    rw [show Int.natAbs 10000 = 10000 from rfl]
    refine Nat.le_trans (Nat.div_le_self _ _) ?_
    omega)
  refine ⟨hE, ?_, ?_⟩
  · unfold brL; rw [hE, if_pos rfl, hq.1]
  · unfold brH; rw [hE, if_pos rfl, hq.2]

/-- the calls of one way through the text -/
structure BWay (W S b w be t te xl xh yl yh : Int) : Prop where
  boil : ∀ w0 : World, Calls Try.prog 57 #[.agg #[.int .i64 W, .int .i64 S], .int .i64 b] w0 fun e w' => e = .returned (.tuple #[.int .i64 w, .int .i64 be]) ∧ Below w0.heap.size w0 w'
  thin : ∀ w0 : World, Calls Try.prog 59 #[.agg #[.int .i64 W, .int .i64 S], .int .i64 b] w0 fun e w' => e = .returned (.tuple #[.int .i64 t, .int .i64 te]) ∧ Below w0.heap.size w0 w'
  bx : ∀ w0 : World, Calls Try.prog 55 #[.agg #[.int .i64 W, .int .i64 S]] w0 fun e w' => e = .returned (.tuple #[.agg #[.int .i64 xl, .int .i64 xh], .int .i64 0]) ∧ Below w0.heap.size w0 w'
  byy : ∀ w0 : World, Calls Try.prog 55 #[.agg #[.int .i64 (W - w), .int .i64 S]] w0 fun e w' => e = .returned (.tuple #[.agg #[.int .i64 yl, .int .i64 yh], .int .i64 0]) ∧ Below w0.heap.size w0 w'

set_option maxRecDepth 40000 in
set_option maxHeartbeats 2000000 in
theorem boiled_B0 (W S c b w xl yl yh : Int) (hw : BWay W S b w 0 0 7 xl xl yl yh) (hf : Boils W S b w xl xl yl yh) (hw0 : 0 < w) (cb : 1 + c % 10000 = b) (b1 : 1 ≤ b) (b2 : b ≤ 10000) (w1 : 0 ≤ W) (w2 : W ≤ 4294967295) (s1 : 0 < S) (s2 : S ≤ 4294967295) (c1 : 0 ≤ c) (c2 : c ≤ 65535)  (w0 : World) :
    Calls Try.prog 12 #[.int .u32 W, .int .u32 S, .int .u16 c] w0 fun e w' => e = .returned (.bool true) ∧ Below w0.heap.size w0 w' := by
  have HW := Lib.hid hw
  have CB := Lib.hid cb
  obtain ⟨k0, k1, k3, k4, klb, klx, khx, kxx, kx0, kht, kwx, kp1, kp2, kp3, kp4⟩ := hf
  have m1 : IntKind.i64.wrap (b * (W - w + S)) = b * (W - w + S) := IntWalk.i64_in _ (by omega)
  have m2 : IntKind.i64.wrap (b * (W - w + 1 + S)) = b * (W - w + 1 + S) := IntWalk.i64_in _ (by omega)
  have xb : xl ≤ 10000 := by omega
  have t3 : decide (S * 10000 < b * (W - w + S)) = false := by simpa using k3
  have t4 : decide (b * (W - w + 1 + S) ≤ S * 10000) = false := by simpa using k4 hw0
  have hwe : (w == 0) = false := by simp; omega
  have kx : xl < b := by
    by_cases h : b ≤ xl
    · have := kwx.2 h; omega
    · omega
  clear hw cb k3 k4 kwx kp1 kp2 kp3 kp4 kxx
  go_enter Try.func12, Try.ntmps12
  go_wp2_with fail
  rw [CB.out]
  refine (HW.out.boil _).mono ?_
  rintro e W1 ⟨rfl, hb1⟩
  have a0 := cell_next hb1 (b := w0.heap.size) (o := 0) (by simp <;> omega) (v := some (.int .i64 W)) (by simp [go_sem])
  have a1 := cell_next hb1 (b := w0.heap.size) (o := 1) (by simp <;> omega) (v := some (.int .i64 S)) (by simp [go_sem])
  have z1 : w0.heap.size < W1.heap.size := by have := hb1.size; simp at this; omega
  have hB := below1 hb1
  clear hb1
  go_wp2_with fail
  refine (HW.out.thin _).mono ?_
  rintro e W2 ⟨rfl, hb2⟩
  replace a0 := cell_next hb2 z1 a0
  replace a1 := cell_next hb2 z1 a1
  replace z1 := Nat.lt_of_lt_of_le z1 hb2.size
  replace hB := hB.trans (hb2.mono hB.size)
  clear hb2
  go_wp2_with fail
  refine (HW.out.bx _).mono ?_
  rintro e W3 ⟨rfl, hb3⟩
  replace a0 := cell_next (below1 hb3) z1 a0
  replace a1 := cell_next (below1 hb3) z1 a1
  have d0 := cell_next hb3 (b := W2.heap.size) (o := 0) (by simp <;> omega) (v := some (.int .i64 (W - w))) (by simp [go_sem])
  have d1 := cell_next hb3 (b := W2.heap.size) (o := 1) (by simp <;> omega) (v := some (.int .i64 S)) (by simp [go_sem])
  have z2 : W2.heap.size < W3.heap.size := by have := hb3.size; simp at this; omega
  replace hB := hB.trans ((below1 hb3).mono hB.size)
  clear hb3
  generalize W2.heap.size = p2 at *
  go_wp2_with fail
  refine (HW.out.byy _).mono ?_
  rintro e W4 ⟨rfl, hb4⟩
  replace a0 := cell_next (below1 hb4) (by omega) a0
  replace a1 := cell_next (below1 hb4) (by omega) a1
  have x0 := cell_next hb4 (b := W3.heap.size) (o := 0) (by simp <;> omega) (v := some (.int .i64 xl)) (by simp [go_sem])
  have x1 := cell_next hb4 (b := W3.heap.size) (o := 1) (by simp <;> omega) (v := some (.int .i64 xl)) (by simp [go_sem])
  have z3 : W3.heap.size < W4.heap.size := by have := hb4.size; simp at this; omega
  replace hB := hB.trans ((below1 hb4).mono hB.size)
  have n1 : w0.heap.size < W4.heap.size := by omega
  generalize W3.heap.size = p3 at *
  clear hb4 d0 d1
  go_wp2_with fail
  refine (known_any _).mono ?_
  rintro e W5 ⟨rfl, hb5⟩
  have hB5 := hB.trans (RowKit.Below.mono (below1 hb5) hB.size)
  clear hb5
  go_wp2_with fail
  go_ret
  exact ⟨rfl, hB5⟩

set_option maxRecDepth 40000 in
set_option maxHeartbeats 2000000 in
theorem boiled_B1 (W S c b w xl yl yh : Int) (hw : BWay W S b w 0 0 7 xl (xl + 1) yl yh) (hf : Boils W S b w xl (xl + 1) yl yh) (hw0 : 0 < w) (cb : 1 + c % 10000 = b) (b1 : 1 ≤ b) (b2 : b ≤ 10000) (w1 : 0 ≤ W) (w2 : W ≤ 4294967295) (s1 : 0 < S) (s2 : S ≤ 4294967295) (c1 : 0 ≤ c) (c2 : c ≤ 65535)  (w0 : World) :
    Calls Try.prog 12 #[.int .u32 W, .int .u32 S, .int .u16 c] w0 fun e w' => e = .returned (.bool true) ∧ Below w0.heap.size w0 w' := by
  have HW := Lib.hid hw
  have CB := Lib.hid cb
  obtain ⟨k0, k1, k3, k4, klb, klx, khx, kxx, kx0, kht, kwx, kp1, kp2, kp3, kp4⟩ := hf
  have m1 : IntKind.i64.wrap (b * (W - w + S)) = b * (W - w + S) := IntWalk.i64_in _ (by omega)
  have m2 : IntKind.i64.wrap (b * (W - w + 1 + S)) = b * (W - w + 1 + S) := IntWalk.i64_in _ (by omega)
  have xb : (xl + 1) ≤ 10000 := by omega
  have t3 : decide (S * 10000 < b * (W - w + S)) = false := by simpa using k3
  have t4 : decide (b * (W - w + 1 + S) ≤ S * 10000) = false := by simpa using k4 hw0
  have hwe : (w == 0) = false := by simp; omega
  have kx : xl < b := by
    by_cases h : b ≤ xl
    · have := kwx.2 h; omega
    · omega
  clear hw cb k3 k4 kwx kp1 kp2 kp3 kp4 kxx
  go_enter Try.func12, Try.ntmps12
  go_wp2_with fail
  rw [CB.out]
  refine (HW.out.boil _).mono ?_
  rintro e W1 ⟨rfl, hb1⟩
  have a0 := cell_next hb1 (b := w0.heap.size) (o := 0) (by simp <;> omega) (v := some (.int .i64 W)) (by simp [go_sem])
  have a1 := cell_next hb1 (b := w0.heap.size) (o := 1) (by simp <;> omega) (v := some (.int .i64 S)) (by simp [go_sem])
  have z1 : w0.heap.size < W1.heap.size := by have := hb1.size; simp at this; omega
  have hB := below1 hb1
  clear hb1
  go_wp2_with fail
  refine (HW.out.thin _).mono ?_
  rintro e W2 ⟨rfl, hb2⟩
  replace a0 := cell_next hb2 z1 a0
  replace a1 := cell_next hb2 z1 a1
  replace z1 := Nat.lt_of_lt_of_le z1 hb2.size
  replace hB := hB.trans (hb2.mono hB.size)
  clear hb2
  go_wp2_with fail
  refine (HW.out.bx _).mono ?_
  rintro e W3 ⟨rfl, hb3⟩
  replace a0 := cell_next (below1 hb3) z1 a0
  replace a1 := cell_next (below1 hb3) z1 a1
  have d0 := cell_next hb3 (b := W2.heap.size) (o := 0) (by simp <;> omega) (v := some (.int .i64 (W - w))) (by simp [go_sem])
  have d1 := cell_next hb3 (b := W2.heap.size) (o := 1) (by simp <;> omega) (v := some (.int .i64 S)) (by simp [go_sem])
  have z2 : W2.heap.size < W3.heap.size := by have := hb3.size; simp at this; omega
  replace hB := hB.trans ((below1 hb3).mono hB.size)
  clear hb3
  generalize W2.heap.size = p2 at *
  go_wp2_with fail
  refine (HW.out.byy _).mono ?_
  rintro e W4 ⟨rfl, hb4⟩
  replace a0 := cell_next (below1 hb4) (by omega) a0
  replace a1 := cell_next (below1 hb4) (by omega) a1
  have x0 := cell_next hb4 (b := W3.heap.size) (o := 0) (by simp <;> omega) (v := some (.int .i64 xl)) (by simp [go_sem])
  have x1 := cell_next hb4 (b := W3.heap.size) (o := 1) (by simp <;> omega) (v := some (.int .i64 (xl + 1))) (by simp [go_sem])
  have z3 : W3.heap.size < W4.heap.size := by have := hb4.size; simp at this; omega
  replace hB := hB.trans ((below1 hb4).mono hB.size)
  have n1 : w0.heap.size < W4.heap.size := by omega
  generalize W3.heap.size = p3 at *
  clear hb4 d0 d1
  go_wp2_with fail
  refine (known_any _).mono ?_
  rintro e W5 ⟨rfl, hb5⟩
  have hB5 := hB.trans (RowKit.Below.mono (below1 hb5) hB.size)
  clear hb5
  go_wp2_with fail
  go_ret
  exact ⟨rfl, hB5⟩

set_option maxRecDepth 40000 in
set_option maxHeartbeats 2000000 in
theorem boiled_C0 (W S c b xl : Int) (hw : BWay W S b 0 0 0 10 xl xl xl xl) (hf : Boils W S b 0 xl xl xl xl) (cb : 1 + c % 10000 = b) (b1 : 1 ≤ b) (b2 : b ≤ 10000) (w1 : 0 ≤ W) (w2 : W ≤ 4294967295) (s1 : 0 < S) (s2 : S ≤ 4294967295) (c1 : 0 ≤ c) (c2 : c ≤ 65535)  (w0 : World) :
    Calls Try.prog 12 #[.int .u32 W, .int .u32 S, .int .u16 c] w0 fun e w' => e = .returned (.bool true) ∧ Below w0.heap.size w0 w' := by
  have HW := Lib.hid hw
  have CB := Lib.hid cb
  obtain ⟨k0, k1, k3, k4, klb, klx, khx, kxx, kx0, kht, kwx, kp1, kp2, kp3, kp4⟩ := hf
  rw [Int.sub_zero] at k3 kp1 kp2
  have m1 : IntKind.i64.wrap (b * (W + S)) = b * (W + S) := IntWalk.i64_in _ (by omega)
  have xb : xl ≤ 10000 := by omega
  have t3 : decide (S * 10000 < b * (W + S)) = false := by simpa using k3
  have kx : b ≤ xl := kwx.1 rfl
  clear hw cb k0 k1 k3 k4 kwx kp1 kp2 kp3 kp4 kxx klx khx klb kht
  go_enter Try.func12, Try.ntmps12
  go_wp2_with fail
  rw [CB.out]
  refine (HW.out.boil _).mono ?_
  rintro e W1 ⟨rfl, hb1⟩
  have a0 := cell_next hb1 (b := w0.heap.size) (o := 0) (by simp <;> omega) (v := some (.int .i64 W)) (by simp [go_sem])
  have a1 := cell_next hb1 (b := w0.heap.size) (o := 1) (by simp <;> omega) (v := some (.int .i64 S)) (by simp [go_sem])
  have z1 : w0.heap.size < W1.heap.size := by have := hb1.size; simp at this; omega
  have hB := below1 hb1
  clear hb1
  go_wp2_with fail
  refine (HW.out.thin _).mono ?_
  rintro e W2 ⟨rfl, hb2⟩
  replace a0 := cell_next hb2 z1 a0
  replace a1 := cell_next hb2 z1 a1
  replace z1 := Nat.lt_of_lt_of_le z1 hb2.size
  replace hB := hB.trans (hb2.mono hB.size)
  clear hb2
  go_wp2_with fail
  refine (HW.out.bx _).mono ?_
  rintro e W3 ⟨rfl, hb3⟩
  replace a0 := cell_next (below1 hb3) z1 a0
  replace a1 := cell_next (below1 hb3) z1 a1
  have d0 := cell_next hb3 (b := W2.heap.size) (o := 0) (by simp <;> omega) (v := some (.int .i64 W)) (by simp [go_sem])
  have d1 := cell_next hb3 (b := W2.heap.size) (o := 1) (by simp <;> omega) (v := some (.int .i64 S)) (by simp [go_sem])
  have z2 : W2.heap.size < W3.heap.size := by have := hb3.size; simp at this; omega
  replace hB := hB.trans ((below1 hb3).mono hB.size)
  clear hb3
  generalize W2.heap.size = p2 at *
  go_wp2_with fail
  refine (HW.out.bx _).mono ?_
  rintro e W4 ⟨rfl, hb4⟩
  replace a0 := cell_next (below1 hb4) (by omega) a0
  replace a1 := cell_next (below1 hb4) (by omega) a1
  have x0 := cell_next hb4 (b := W3.heap.size) (o := 0) (by simp <;> omega) (v := some (.int .i64 xl)) (by simp [go_sem])
  have x1 := cell_next hb4 (b := W3.heap.size) (o := 1) (by simp <;> omega) (v := some (.int .i64 xl)) (by simp [go_sem])
  have z3 : W3.heap.size < W4.heap.size := by have := hb4.size; simp at this; omega
  replace hB := hB.trans ((below1 hb4).mono hB.size)
  have n1 : w0.heap.size < W4.heap.size := by omega
  generalize W3.heap.size = p3 at *
  clear hb4 d0 d1
  go_wp2_with fail
  refine (known_any _).mono ?_
  rintro e W5 ⟨rfl, hb5⟩
  have hB5 := hB.trans (RowKit.Below.mono (below1 hb5) hB.size)
  clear hb5
  go_wp2_with fail
  go_ret
  exact ⟨rfl, hB5⟩

set_option maxRecDepth 40000 in
set_option maxHeartbeats 2000000 in
theorem boiled_C1 (W S c b xl : Int) (hw : BWay W S b 0 0 0 10 xl (xl + 1) xl (xl + 1)) (hf : Boils W S b 0 xl (xl + 1) xl (xl + 1)) (cb : 1 + c % 10000 = b) (b1 : 1 ≤ b) (b2 : b ≤ 10000) (w1 : 0 ≤ W) (w2 : W ≤ 4294967295) (s1 : 0 < S) (s2 : S ≤ 4294967295) (c1 : 0 ≤ c) (c2 : c ≤ 65535)  (w0 : World) :
    Calls Try.prog 12 #[.int .u32 W, .int .u32 S, .int .u16 c] w0 fun e w' => e = .returned (.bool true) ∧ Below w0.heap.size w0 w' := by
  have HW := Lib.hid hw
  have CB := Lib.hid cb
  obtain ⟨k0, k1, k3, k4, klb, klx, khx, kxx, kx0, kht, kwx, kp1, kp2, kp3, kp4⟩ := hf
  rw [Int.sub_zero] at k3 kp1 kp2
  have m1 : IntKind.i64.wrap (b * (W + S)) = b * (W + S) := IntWalk.i64_in _ (by omega)
  have xb : (xl + 1) ≤ 10000 := by omega
  have t3 : decide (S * 10000 < b * (W + S)) = false := by simpa using k3
  have kx : b ≤ xl := kwx.1 rfl
  clear hw cb k0 k1 k3 k4 kwx kp1 kp2 kp3 kp4 kxx klx khx klb kht
  go_enter Try.func12, Try.ntmps12
  go_wp2_with fail
  rw [CB.out]
  refine (HW.out.boil _).mono ?_
  rintro e W1 ⟨rfl, hb1⟩
  have a0 := cell_next hb1 (b := w0.heap.size) (o := 0) (by simp <;> omega) (v := some (.int .i64 W)) (by simp [go_sem])
  have a1 := cell_next hb1 (b := w0.heap.size) (o := 1) (by simp <;> omega) (v := some (.int .i64 S)) (by simp [go_sem])
  have z1 : w0.heap.size < W1.heap.size := by have := hb1.size; simp at this; omega
  have hB := below1 hb1
  clear hb1
  go_wp2_with fail
  refine (HW.out.thin _).mono ?_
  rintro e W2 ⟨rfl, hb2⟩
  replace a0 := cell_next hb2 z1 a0
  replace a1 := cell_next hb2 z1 a1
  replace z1 := Nat.lt_of_lt_of_le z1 hb2.size
  replace hB := hB.trans (hb2.mono hB.size)
  clear hb2
  go_wp2_with fail
  refine (HW.out.bx _).mono ?_
  rintro e W3 ⟨rfl, hb3⟩
  replace a0 := cell_next (below1 hb3) z1 a0
  replace a1 := cell_next (below1 hb3) z1 a1
  have d0 := cell_next hb3 (b := W2.heap.size) (o := 0) (by simp <;> omega) (v := some (.int .i64 W)) (by simp [go_sem])
  have d1 := cell_next hb3 (b := W2.heap.size) (o := 1) (by simp <;> omega) (v := some (.int .i64 S)) (by simp [go_sem])
  have z2 : W2.heap.size < W3.heap.size := by have := hb3.size; simp at this; omega
  replace hB := hB.trans ((below1 hb3).mono hB.size)
  clear hb3
  generalize W2.heap.size = p2 at *
  go_wp2_with fail
  refine (HW.out.bx _).mono ?_
  rintro e W4 ⟨rfl, hb4⟩
  replace a0 := cell_next (below1 hb4) (by omega) a0
  replace a1 := cell_next (below1 hb4) (by omega) a1
  have x0 := cell_next hb4 (b := W3.heap.size) (o := 0) (by simp <;> omega) (v := some (.int .i64 xl)) (by simp [go_sem])
  have x1 := cell_next hb4 (b := W3.heap.size) (o := 1) (by simp <;> omega) (v := some (.int .i64 (xl + 1))) (by simp [go_sem])
  have z3 : W3.heap.size < W4.heap.size := by have := hb4.size; simp at this; omega
  replace hB := hB.trans ((below1 hb4).mono hB.size)
  have n1 : w0.heap.size < W4.heap.size := by omega
  generalize W3.heap.size = p3 at *
  clear hb4 d0 d1
  go_wp2_with fail
  refine (known_any _).mono ?_
  rintro e W5 ⟨rfl, hb5⟩
  have hB5 := hB.trans (RowKit.Below.mono (below1 hb5) hB.size)
  clear hb5
  go_wp2_with fail
  go_ret
  exact ⟨rfl, hB5⟩

set_option maxRecDepth 40000 in
set_option maxHeartbeats 2000000 in
theorem boiled_D0 (W S c b t xl : Int) (hw : BWay W S b 0 0 t 0 xl xl xl xl) (hf : Boils W S b 0 xl xl xl xl) (ht0 : 0 ≤ t) (ht1 : t ≤ 1000000000000) (hg1 : b * (W + S + t) ≤ S * 10000) (hg2 : S * 10000 < b * (W + S + t + 1)) (cb : 1 + c % 10000 = b) (b1 : 1 ≤ b) (b2 : b ≤ 10000) (w1 : 0 ≤ W) (w2 : W ≤ 4294967295) (s1 : 0 < S) (s2 : S ≤ 4294967295) (c1 : 0 ≤ c) (c2 : c ≤ 65535)  (w0 : World) :
    Calls Try.prog 12 #[.int .u32 W, .int .u32 S, .int .u16 c] w0 fun e w' => e = .returned (.bool true) ∧ Below w0.heap.size w0 w' := by
  have HW := Lib.hid hw
  have CB := Lib.hid cb
  obtain ⟨k0, k1, k3, k4, klb, klx, khx, kxx, kx0, kht, kwx, kp1, kp2, kp3, kp4⟩ := hf
  rw [Int.sub_zero] at k3 kp1 kp2
  have m1 : IntKind.i64.wrap (b * (W + S)) = b * (W + S) := IntWalk.i64_in _ (by omega)
  have xb : xl ≤ 10000 := by omega
  have t3 : decide (S * 10000 < b * (W + S)) = false := by simpa using k3
  have kx : b ≤ xl := kwx.1 rfl
  clear hw cb k0 k1 k3 k4 kwx kp1 kp2 kp3 kp4 kxx klx khx klb kht
  obtain ⟨g1, g2⟩ := prod_bd (b := b) (m := W + S + t) b1 b2 (by omega) (by omega)
  obtain ⟨g3, g4⟩ := prod_bd (b := b) (m := W + S + t + 1) b1 b2 (by omega) (by omega)
  have m5 : IntKind.i64.wrap (b * (W + S + t)) = b * (W + S + t) := IntWalk.i64_in _ (by omega)
  have m6 : IntKind.i64.wrap (b * (W + S + t + 1)) = b * (W + S + t + 1) := IntWalk.i64_in _ (by omega)
  have t5 : decide (b * (W + S + t) ≤ S * 10000) = true := by simpa using hg1
  have t6 : decide (S * 10000 < b * (W + S + t + 1)) = true := by simpa using hg2
  clear g1 g2 g3 g4 hg1 hg2
  go_enter Try.func12, Try.ntmps12
  go_wp2_with fail
  rw [CB.out]
  refine (HW.out.boil _).mono ?_
  rintro e W1 ⟨rfl, hb1⟩
  have a0 := cell_next hb1 (b := w0.heap.size) (o := 0) (by simp <;> omega) (v := some (.int .i64 W)) (by simp [go_sem])
  have a1 := cell_next hb1 (b := w0.heap.size) (o := 1) (by simp <;> omega) (v := some (.int .i64 S)) (by simp [go_sem])
  have z1 : w0.heap.size < W1.heap.size := by have := hb1.size; simp at this; omega
  have hB := below1 hb1
  clear hb1
  go_wp2_with fail
  refine (HW.out.thin _).mono ?_
  rintro e W2 ⟨rfl, hb2⟩
  replace a0 := cell_next hb2 z1 a0
  replace a1 := cell_next hb2 z1 a1
  replace z1 := Nat.lt_of_lt_of_le z1 hb2.size
  replace hB := hB.trans (hb2.mono hB.size)
  clear hb2
  go_wp2_with fail
  refine (HW.out.bx _).mono ?_
  rintro e W3 ⟨rfl, hb3⟩
  replace a0 := cell_next (below1 hb3) z1 a0
  replace a1 := cell_next (below1 hb3) z1 a1
  have d0 := cell_next hb3 (b := W2.heap.size) (o := 0) (by simp <;> omega) (v := some (.int .i64 W)) (by simp [go_sem])
  have d1 := cell_next hb3 (b := W2.heap.size) (o := 1) (by simp <;> omega) (v := some (.int .i64 S)) (by simp [go_sem])
  have z2 : W2.heap.size < W3.heap.size := by have := hb3.size; simp at this; omega
  replace hB := hB.trans ((below1 hb3).mono hB.size)
  clear hb3
  generalize W2.heap.size = p2 at *
  go_wp2_with fail
  refine (HW.out.bx _).mono ?_
  rintro e W4 ⟨rfl, hb4⟩
  replace a0 := cell_next (below1 hb4) (by omega) a0
  replace a1 := cell_next (below1 hb4) (by omega) a1
  have x0 := cell_next hb4 (b := W3.heap.size) (o := 0) (by simp <;> omega) (v := some (.int .i64 xl)) (by simp [go_sem])
  have x1 := cell_next hb4 (b := W3.heap.size) (o := 1) (by simp <;> omega) (v := some (.int .i64 xl)) (by simp [go_sem])
  have z3 : W3.heap.size < W4.heap.size := by have := hb4.size; simp at this; omega
  replace hB := hB.trans ((below1 hb4).mono hB.size)
  have n1 : w0.heap.size < W4.heap.size := by omega
  generalize W3.heap.size = p3 at *
  clear hb4 d0 d1
  go_wp2_with fail
  refine (known_any _).mono ?_
  rintro e W5 ⟨rfl, hb5⟩
  have hB5 := hB.trans (RowKit.Below.mono (below1 hb5) hB.size)
  clear hb5
  go_wp2_with fail
  go_ret
  exact ⟨rfl, hB5⟩

set_option maxRecDepth 40000 in
set_option maxHeartbeats 2000000 in
theorem boiled_D1 (W S c b t xl : Int) (hw : BWay W S b 0 0 t 0 xl (xl + 1) xl (xl + 1)) (hf : Boils W S b 0 xl (xl + 1) xl (xl + 1)) (ht0 : 0 ≤ t) (ht1 : t ≤ 1000000000000) (hg1 : b * (W + S + t) ≤ S * 10000) (hg2 : S * 10000 < b * (W + S + t + 1)) (cb : 1 + c % 10000 = b) (b1 : 1 ≤ b) (b2 : b ≤ 10000) (w1 : 0 ≤ W) (w2 : W ≤ 4294967295) (s1 : 0 < S) (s2 : S ≤ 4294967295) (c1 : 0 ≤ c) (c2 : c ≤ 65535)  (w0 : World) :
    Calls Try.prog 12 #[.int .u32 W, .int .u32 S, .int .u16 c] w0 fun e w' => e = .returned (.bool true) ∧ Below w0.heap.size w0 w' := by
  have HW := Lib.hid hw
  have CB := Lib.hid cb
  obtain ⟨k0, k1, k3, k4, klb, klx, khx, kxx, kx0, kht, kwx, kp1, kp2, kp3, kp4⟩ := hf
  rw [Int.sub_zero] at k3 kp1 kp2
  have m1 : IntKind.i64.wrap (b * (W + S)) = b * (W + S) := IntWalk.i64_in _ (by omega)
  have xb : (xl + 1) ≤ 10000 := by omega
  have t3 : decide (S * 10000 < b * (W + S)) = false := by simpa using k3
  have kx : b ≤ xl := kwx.1 rfl
  clear hw cb k0 k1 k3 k4 kwx kp1 kp2 kp3 kp4 kxx klx khx klb kht
  obtain ⟨g1, g2⟩ := prod_bd (b := b) (m := W + S + t) b1 b2 (by omega) (by omega)
  obtain ⟨g3, g4⟩ := prod_bd (b := b) (m := W + S + t + 1) b1 b2 (by omega) (by omega)
  have m5 : IntKind.i64.wrap (b * (W + S + t)) = b * (W + S + t) := IntWalk.i64_in _ (by omega)
  have m6 : IntKind.i64.wrap (b * (W + S + t + 1)) = b * (W + S + t + 1) := IntWalk.i64_in _ (by omega)
  have t5 : decide (b * (W + S + t) ≤ S * 10000) = true := by simpa using hg1
  have t6 : decide (S * 10000 < b * (W + S + t + 1)) = true := by simpa using hg2
  clear g1 g2 g3 g4 hg1 hg2
  go_enter Try.func12, Try.ntmps12
  go_wp2_with fail
  rw [CB.out]
  refine (HW.out.boil _).mono ?_
  rintro e W1 ⟨rfl, hb1⟩
  have a0 := cell_next hb1 (b := w0.heap.size) (o := 0) (by simp <;> omega) (v := some (.int .i64 W)) (by simp [go_sem])
  have a1 := cell_next hb1 (b := w0.heap.size) (o := 1) (by simp <;> omega) (v := some (.int .i64 S)) (by simp [go_sem])
  have z1 : w0.heap.size < W1.heap.size := by have := hb1.size; simp at this; omega
  have hB := below1 hb1
  clear hb1
  go_wp2_with fail
  refine (HW.out.thin _).mono ?_
  rintro e W2 ⟨rfl, hb2⟩
  replace a0 := cell_next hb2 z1 a0
  replace a1 := cell_next hb2 z1 a1
  replace z1 := Nat.lt_of_lt_of_le z1 hb2.size
  replace hB := hB.trans (hb2.mono hB.size)
  clear hb2
  go_wp2_with fail
  refine (HW.out.bx _).mono ?_
  rintro e W3 ⟨rfl, hb3⟩
  replace a0 := cell_next (below1 hb3) z1 a0
  replace a1 := cell_next (below1 hb3) z1 a1
  have d0 := cell_next hb3 (b := W2.heap.size) (o := 0) (by simp <;> omega) (v := some (.int .i64 W)) (by simp [go_sem])
  have d1 := cell_next hb3 (b := W2.heap.size) (o := 1) (by simp <;> omega) (v := some (.int .i64 S)) (by simp [go_sem])
  have z2 : W2.heap.size < W3.heap.size := by have := hb3.size; simp at this; omega
  replace hB := hB.trans ((below1 hb3).mono hB.size)
  clear hb3
  generalize W2.heap.size = p2 at *
  go_wp2_with fail
  refine (HW.out.bx _).mono ?_
  rintro e W4 ⟨rfl, hb4⟩
  replace a0 := cell_next (below1 hb4) (by omega) a0
  replace a1 := cell_next (below1 hb4) (by omega) a1
  have x0 := cell_next hb4 (b := W3.heap.size) (o := 0) (by simp <;> omega) (v := some (.int .i64 xl)) (by simp [go_sem])
  have x1 := cell_next hb4 (b := W3.heap.size) (o := 1) (by simp <;> omega) (v := some (.int .i64 (xl + 1))) (by simp [go_sem])
  have z3 : W3.heap.size < W4.heap.size := by have := hb4.size; simp at this; omega
  replace hB := hB.trans ((below1 hb4).mono hB.size)
  have n1 : w0.heap.size < W4.heap.size := by omega
  generalize W3.heap.size = p3 at *
  clear hb4 d0 d1
  go_wp2_with fail
  refine (known_any _).mono ?_
  rintro e W5 ⟨rfl, hb5⟩
  have hB5 := hB.trans (RowKit.Below.mono (below1 hb5) hB.size)
  clear hb5
  go_wp2_with fail
  go_ret
  exact ⟨rfl, hB5⟩

set_option maxRecDepth 40000 in
set_option maxHeartbeats 2000000 in
theorem boiled_A (W c b : Int) (cb : 1 + c % 10000 = b) (b1 : 1 ≤ b) (b2 : b ≤ 10000) (w1 : 0 ≤ W) (w2 : W ≤ 4294967295) (c1 : 0 ≤ c) (c2 : c ≤ 65535) (w0 : World) :
    Calls Try.prog 12 #[.int .u32 W, .int .u32 0, .int .u16 c] w0 fun e w' => e = .returned (.bool true) ∧ Below w0.heap.size w0 w' := by
  obtain ⟨e1, e2, e3, e4⟩ := boil_zero (a := W) (b := b) w1 (by omega) b1 b2
  have hb := boil_any W 0 b
  have ht := thin_any W 0 b
  rw [e1, e2] at hb
  rw [e3, e4] at ht
  have HB := Lib.hid hb
  have HT := Lib.hid ht
  have CB := Lib.hid cb
  clear e1 e2 e3 e4 hb ht cb
  go_enter Try.func12, Try.ntmps12
  go_wp2_with fail
  rw [CB.out]
  refine (HB.out _).mono ?_
  rintro e W1 ⟨rfl, hb1⟩
  have a0 := cell_next hb1 (b := w0.heap.size) (o := 0) (by simp <;> omega) (v := some (.int .i64 W)) (by simp [go_sem])
  have a1 := cell_next hb1 (b := w0.heap.size) (o := 1) (by simp <;> omega) (v := some (.int .i64 0)) (by simp [go_sem])
  have z1 : w0.heap.size < W1.heap.size := by have := hb1.size; simp at this; omega
  have hB := below1 hb1
  clear hb1
  go_wp2_with fail
  refine (HT.out _).mono ?_
  rintro e W2 ⟨rfl, hb2⟩
  replace a0 := cell_next hb2 z1 a0
  replace a1 := cell_next hb2 z1 a1
  replace hB := hB.trans (hb2.mono hB.size)
  clear hb2
  go_wp2_with fail
  refine (known_any _).mono ?_
  rintro e W5 ⟨rfl, hb5⟩
  have hB5 := hB.trans (RowKit.Below.mono hb5 hB.size)
  clear hb5
  go_wp2_with fail
  go_ret
  exact ⟨rfl, hB5⟩

theorem boiled_walk (W S c : Int) (w1 : 0 ≤ W) (w2 : W ≤ 4294967295) (s1 : 0 ≤ S) (s2 : S ≤ 4294967295) (c1 : 0 ≤ c) (c2 : c ≤ 65535) (w0 : World) :
    Calls Try.prog 12 #[.int .u32 W, .int .u32 S, .int .u16 c] w0 fun e w' => e = .returned (.bool true) ∧ Below w0.heap.size w0 w' := by
  obtain ⟨b, cb⟩ : ∃ b, 1 + c % 10000 = b := ⟨_, rfl⟩
  have b1 : 1 ≤ b := by omega
  have b2 : b ≤ 10000 := by omega
  by_cases hS : S = 0
  · subst hS
    exact boiled_A W c b cb b1 b2 w1 w2 c1 c2 w0
  · have hS0 : 0 < S := by omega
    obtain ⟨w, hw⟩ : ∃ w, w = max 0 (W + S - S * 10000 / b) := ⟨_, rfl⟩
    have hf := boils_of W S b w1 w2 hS0 s2 b1 b2 w hw
    obtain ⟨e1, e2, e3, e4⟩ := boil_pos (a := W) (s := S) (b := b) w1 (by omega) hS0 (by omega) b1 b2
    obtain ⟨x1, x2, x3⟩ := brix_pos (a := W) (s := S) w1 (by omega) hS0 (by omega)
    obtain ⟨y1, y2, y3⟩ := brix_pos (a := W - w) (s := S) (by have := hf.w1; omega) (by have := hf.w0; omega) hS0 (by omega)
    have hq1 := fl_le (N := S * 10000) (m := b) (by omega)
    have hq2 := fl_lt (N := S * 10000) (m := b) (by omega)
    have hboil := boil_any W S b
    have hthin := thin_any W S b
    have hbx := brix_any W S
    have hby := brix_any (W - w) S
    rw [e1, e2, ← hw] at hboil
    rw [e4, e3] at hthin
    rw [x1, x2, x3] at hbx
    rw [y1, y2, y3] at hby
    clear e1 e2 e3 e4 x1 x2 x3 y1 y2 y3
    have hxx := hf.xx
    generalize S * 10000 / b = q at *
    by_cases hwp : 0 < w
    · have hq : q - (W + S) < 0 := by omega
      rw [if_pos hq, if_neg (by omega)] at hthin
      generalize S * 10000 / (W + S) = xl at *
      generalize -(-(S * 10000) / (W + S)) = xh at *
      generalize S * 10000 / (W - w + S) = yl at *
      generalize -(-(S * 10000) / (W - w + S)) = yh at *
      rcases hxx with rfl | rfl
      · exact boiled_B0 W S c b w _ yl yh ⟨hboil, hthin, hbx, hby⟩ hf hwp cb b1 b2 w1 w2 hS0 s2 c1 c2 w0
      · exact boiled_B1 W S c b w xl yl yh ⟨hboil, hthin, hbx, hby⟩ hf hwp cb b1 b2 w1 w2 hS0 s2 c1 c2 w0
    · have hw0 : w = 0 := by have := hf.w0; omega
      subst hw0
      have hq : ¬ q - (W + S) < 0 := by omega
      rw [if_neg hq] at hthin
      have hws : W - 0 = W := Int.sub_zero W
      rw [hws] at hf hby
      generalize S * 10000 / (W + S) = xl at *
      generalize -(-(S * 10000) / (W + S)) = xh at *
      have hby' := hby
      rw [← hws] at hby'
      by_cases hbig : 1000000000000 < W + (q - (W + S))
      · rw [if_pos hbig, if_neg (by omega)] at hthin
        rcases hxx with rfl | rfl
        · exact boiled_C0 W S c b _ ⟨hboil, hthin, hbx, hby'⟩ hf cb b1 b2 w1 w2 hS0 s2 c1 c2 w0
        · exact boiled_C1 W S c b xl ⟨hboil, hthin, hbx, hby'⟩ hf cb b1 b2 w1 w2 hS0 s2 c1 c2 w0
      · rw [if_neg hbig, if_pos rfl] at hthin
        have g1 : b * (W + S + (q - (W + S))) ≤ S * 10000 := by rw [show W + S + (q - (W + S)) = q from by omega]; exact hq1
        have g2 : S * 10000 < b * (W + S + (q - (W + S)) + 1) := by rw [show W + S + (q - (W + S)) + 1 = q + 1 from by omega]; exact hq2
        rcases hxx with rfl | rfl
        · exact boiled_D0 W S c b _ _ ⟨hboil, hthin, hbx, hby'⟩ hf (by omega) (by omega) g1 g2 cb b1 b2 w1 w2 hS0 s2 c1 c2 w0
        · exact boiled_D1 W S c b _ xl ⟨hboil, hthin, hbx, hby'⟩ hf (by omega) (by omega) g1 g2 cb b1 b2 w1 w2 hS0 s2 c1 c2 w0

end Go.Proofs.Ytgakniehfnegiaa
