/- The walk of the statement on fractions in lowest terms, parts and parts of numbers: the Go text returns true. -/
import Derived.Test.YtiibbnbknmeplaaC16
import Derived.Test.YtiibbnbknmeplaaK2
namespace Go.Proofs.Ytiibbnbknmeplaa
open Go.RowKit Go.Lib
set_option linter.unusedVariables false
set_option linter.unusedSimpArgs false
attribute [local go_sem ↓] Go.wp_at_zero Go.wp_at_succ

set_option maxRecDepth 100000 in
set_option maxHeartbeats 6000000 in
theorem parts_walk (a b c d n0 n1 n2 : Int) (w : World) :
    Calls Try.prog 5 #[.agg #[.int .i64 a, .int .i64 b], .agg #[.int .i64 c, .int .i64 d], .agg #[.int .i64 n0, .int .i64 n1, .int .i64 n2]] w fun e w' => e = .returned (.bool true) ∧ Below w.heap.size w w' := by
  have HK := Lib.hid known_any
  have c1 := Lib.hid (makePart_any n0 n1)
  have c2 := Lib.hid (rMakePart_any n0 n1)
  have c3 := Lib.hid (of_any n2 a b)
  have c4 := Lib.hid (rOf_any n2 a b)
  have c5 := Lib.hid (comparePart_any a b c d)
  have c6 := Lib.hid (addPart_any a b c d)
  have c7 := Lib.hid (mulPart_any a b c d)
  have c8 := Lib.hid (rPart_any a b)
  have c9 := Lib.hid (rPart_any c d)
  generalize mkN n0 n1 = pn at *
  generalize mkD n0 n1 = pd at *
  generalize mkE n0 n1 = pe at *
  generalize ofL n2 a b = ol at *
  generalize ofH n2 a b = oh at *
  generalize ofE n2 a b = oe at *
  have EV : Hid (cpV a b c d = if (vpB a b && vpB c d) = true then cpS (a * d) (c * b) else 0) := Lib.hid rfl
  have EC : Hid (cpE a b c d = if (vpB a b && vpB c d) = true then 0 else 2) := Lib.hid rfl
  have EA : Hid (adN a b c d = if (vpB a b && vpB c d) = true then lowRN (a * d + c * b) (b * d) else 0) := Lib.hid rfl
  have EB : Hid (adQ a b c d = if (vpB a b && vpB c d) = true then lowRQ (a * d + c * b) (b * d) else 0) := Lib.hid rfl
  have EE : Hid (adE a b c d = if (vpB a b && vpB c d) = true then lowRE (a * d + c * b) (b * d) else 2) := Lib.hid rfl
  have FA : Hid (muN a b c d = if (vpB a b && vpB c d) = true then lowRN (a * c) (b * d) else 0) := Lib.hid rfl
  have FB : Hid (muQ a b c d = if (vpB a b && vpB c d) = true then lowRQ (a * c) (b * d) else 0) := Lib.hid rfl
  have FE : Hid (muE a b c d = if (vpB a b && vpB c d) = true then lowRE (a * c) (b * d) else 2) := Lib.hid rfl
  have HV := Lib.hid (@vv_bd a b c d)
  have HC := Lib.hid (@rCompare_any a b c d)
  generalize cpV a b c d = xv at *
  generalize cpE a b c d = xe at *
  generalize adN a b c d = an at *
  generalize adQ a b c d = aq at *
  generalize adE a b c d = ae at *
  generalize muN a b c d = mn at *
  generalize muQ a b c d = mq at *
  generalize muE a b c d = me at *
  generalize vpB a b = u at *
  generalize vpB c d = v at *
  cases u
  · simp only [Bool.false_and, Bool.false_eq_true, if_false] at EV EC EA EB EE FA FB FE
    obtain rfl := EV.out
    obtain rfl := EC.out
    obtain rfl := EA.out
    obtain rfl := EB.out
    obtain rfl := EE.out
    obtain rfl := FA.out
    obtain rfl := FB.out
    obtain rfl := FE.out
    clear EV EC EA EB EE FA FB FE HV HC
    go_enter Try.func5, Try.ntmps5
    go_wp2_with fail
    refine (c1.out _).mono ?_
    rintro e W1 ⟨rfl, hb⟩
    have A0 := cell_next hb (b := w.heap.size) (o := 0) (by simp <;> omega) (v := some (.int .i64 a)) (by simp [go_sem])
    have A1 := cell_next hb (b := w.heap.size) (o := 1) (by simp <;> omega) (v := some (.int .i64 b)) (by simp [go_sem])
    have nA : w.heap.size < W1.heap.size := by have := hb.size; simp at this; omega
    have B0 := cell_next hb (b := w.heap.size + 1) (o := 0) (by simp <;> omega) (v := some (.int .i64 c)) (by simp [go_sem])
    have B1 := cell_next hb (b := w.heap.size + 1) (o := 1) (by simp <;> omega) (v := some (.int .i64 d)) (by simp [go_sem])
    have nB : w.heap.size + 1 < W1.heap.size := by have := hb.size; simp at this; omega
    have N0 := cell_next hb (b := w.heap.size + 1 + 1) (o := 0) (by simp <;> omega) (v := some (.int .i64 n0)) (by simp [go_sem])
    have N1 := cell_next hb (b := w.heap.size + 1 + 1) (o := 1) (by simp <;> omega) (v := some (.int .i64 n1)) (by simp [go_sem])
    have N2 := cell_next hb (b := w.heap.size + 1 + 1) (o := 2) (by simp <;> omega) (v := some (.int .i64 n2)) (by simp [go_sem])
    have nN : w.heap.size + 1 + 1 < W1.heap.size := by have := hb.size; simp at this; omega
    have hB := (below3 hb)
    clear hb
    go_wp2_with fail
    refine (c2.out _).mono ?_
    rintro e W2 ⟨rfl, hb⟩
    replace A0 := cell_next (below1 hb) nA A0
    replace A1 := cell_next (below1 hb) nA A1
    replace nA := Nat.lt_of_lt_of_le nA (below1 hb).size
    replace B0 := cell_next (below1 hb) nB B0
    replace B1 := cell_next (below1 hb) nB B1
    replace nB := Nat.lt_of_lt_of_le nB (below1 hb).size
    replace N0 := cell_next (below1 hb) nN N0
    replace N1 := cell_next (below1 hb) nN N1
    replace N2 := cell_next (below1 hb) nN N2
    replace nN := Nat.lt_of_lt_of_le nN (below1 hb).size
    have p0 := cell_next hb (b := W1.heap.size) (o := 0) (by simp <;> omega) (v := some (.int .i64 pn)) (by simp [go_sem])
    have p1 := cell_next hb (b := W1.heap.size) (o := 1) (by simp <;> omega) (v := some (.int .i64 pd)) (by simp [go_sem])
    have np : W1.heap.size < W2.heap.size := by have := hb.size; simp at this; omega
    replace hB := hB.trans ((below1 hb).mono hB.size)
    clear hb
    generalize W1.heap.size = q2 at *
    go_wp2_with fail
    refine (c3.out _).mono ?_
    rintro e W3 ⟨rfl, hb⟩
    replace A0 := cell_next (below1 hb) nA A0
    replace A1 := cell_next (below1 hb) nA A1
    replace nA := Nat.lt_of_lt_of_le nA (below1 hb).size
    replace B0 := cell_next (below1 hb) nB B0
    replace B1 := cell_next (below1 hb) nB B1
    replace nB := Nat.lt_of_lt_of_le nB (below1 hb).size
    replace N0 := cell_next (below1 hb) nN N0
    replace N1 := cell_next (below1 hb) nN N1
    replace N2 := cell_next (below1 hb) nN N2
    replace nN := Nat.lt_of_lt_of_le nN (below1 hb).size
    replace p0 := cell_next (below1 hb) np p0
    replace p1 := cell_next (below1 hb) np p1
    replace np := Nat.lt_of_lt_of_le np (below1 hb).size
    have q0 := cell_next hb (b := W2.heap.size) (o := 0) (by simp <;> omega) (v := some (.int .i64 pn)) (by simp [go_sem])
    have q1 := cell_next hb (b := W2.heap.size) (o := 1) (by simp <;> omega) (v := some (.int .i64 pd)) (by simp [go_sem])
    have nq : W2.heap.size < W3.heap.size := by have := hb.size; simp at this; omega
    replace hB := hB.trans ((below1 hb).mono hB.size)
    clear hb
    generalize W2.heap.size = q3 at *
    go_wp2_with fail
    refine (c4.out _).mono ?_
    rintro e W4 ⟨rfl, hb⟩
    replace A0 := cell_next (below1 hb) nA A0
    replace A1 := cell_next (below1 hb) nA A1
    replace nA := Nat.lt_of_lt_of_le nA (below1 hb).size
    replace B0 := cell_next (below1 hb) nB B0
    replace B1 := cell_next (below1 hb) nB B1
    replace nB := Nat.lt_of_lt_of_le nB (below1 hb).size
    replace N0 := cell_next (below1 hb) nN N0
    replace N1 := cell_next (below1 hb) nN N1
    replace N2 := cell_next (below1 hb) nN N2
    replace nN := Nat.lt_of_lt_of_le nN (below1 hb).size
    replace p0 := cell_next (below1 hb) np p0
    replace p1 := cell_next (below1 hb) np p1
    replace np := Nat.lt_of_lt_of_le np (below1 hb).size
    replace q0 := cell_next (below1 hb) nq q0
    replace q1 := cell_next (below1 hb) nq q1
    replace nq := Nat.lt_of_lt_of_le nq (below1 hb).size
    have r0 := cell_next hb (b := W3.heap.size) (o := 0) (by simp <;> omega) (v := some (.int .i64 ol)) (by simp [go_sem])
    have r1 := cell_next hb (b := W3.heap.size) (o := 1) (by simp <;> omega) (v := some (.int .i64 oh)) (by simp [go_sem])
    have nr : W3.heap.size < W4.heap.size := by have := hb.size; simp at this; omega
    replace hB := hB.trans ((below1 hb).mono hB.size)
    clear hb
    generalize W3.heap.size = q4 at *
    go_wp2_with fail
    refine (c5.out _).mono ?_
    rintro e W5 ⟨rfl, hb⟩
    replace A0 := cell_next (below1 hb) nA A0
    replace A1 := cell_next (below1 hb) nA A1
    replace nA := Nat.lt_of_lt_of_le nA (below1 hb).size
    replace B0 := cell_next (below1 hb) nB B0
    replace B1 := cell_next (below1 hb) nB B1
    replace nB := Nat.lt_of_lt_of_le nB (below1 hb).size
    replace N0 := cell_next (below1 hb) nN N0
    replace N1 := cell_next (below1 hb) nN N1
    replace N2 := cell_next (below1 hb) nN N2
    replace nN := Nat.lt_of_lt_of_le nN (below1 hb).size
    replace p0 := cell_next (below1 hb) np p0
    replace p1 := cell_next (below1 hb) np p1
    replace np := Nat.lt_of_lt_of_le np (below1 hb).size
    replace q0 := cell_next (below1 hb) nq q0
    replace q1 := cell_next (below1 hb) nq q1
    replace nq := Nat.lt_of_lt_of_le nq (below1 hb).size
    replace r0 := cell_next (below1 hb) nr r0
    replace r1 := cell_next (below1 hb) nr r1
    replace nr := Nat.lt_of_lt_of_le nr (below1 hb).size
    have s0 := cell_next hb (b := W4.heap.size) (o := 0) (by simp <;> omega) (v := some (.int .i64 ol)) (by simp [go_sem])
    have s1 := cell_next hb (b := W4.heap.size) (o := 1) (by simp <;> omega) (v := some (.int .i64 oh)) (by simp [go_sem])
    have ns : W4.heap.size < W5.heap.size := by have := hb.size; simp at this; omega
    replace hB := hB.trans ((below1 hb).mono hB.size)
    clear hb
    generalize W4.heap.size = q5 at *
    go_wp2_with fail
    refine (c6.out _).mono ?_
    rintro e W6 ⟨rfl, hb⟩
    replace A0 := cell_next hb nA A0
    replace A1 := cell_next hb nA A1
    replace nA := Nat.lt_of_lt_of_le nA hb.size
    replace B0 := cell_next hb nB B0
    replace B1 := cell_next hb nB B1
    replace nB := Nat.lt_of_lt_of_le nB hb.size
    replace N0 := cell_next hb nN N0
    replace N1 := cell_next hb nN N1
    replace N2 := cell_next hb nN N2
    replace nN := Nat.lt_of_lt_of_le nN hb.size
    replace p0 := cell_next hb np p0
    replace p1 := cell_next hb np p1
    replace np := Nat.lt_of_lt_of_le np hb.size
    replace q0 := cell_next hb nq q0
    replace q1 := cell_next hb nq q1
    replace nq := Nat.lt_of_lt_of_le nq hb.size
    replace r0 := cell_next hb nr r0
    replace r1 := cell_next hb nr r1
    replace nr := Nat.lt_of_lt_of_le nr hb.size
    replace s0 := cell_next hb ns s0
    replace s1 := cell_next hb ns s1
    replace ns := Nat.lt_of_lt_of_le ns hb.size
    replace hB := hB.trans (hb.mono hB.size)
    clear hb
    go_wp2_with fail
    refine (c7.out _).mono ?_
    rintro e W7 ⟨rfl, hb⟩
    replace A0 := cell_next (below1 hb) nA A0
    replace A1 := cell_next (below1 hb) nA A1
    replace nA := Nat.lt_of_lt_of_le nA (below1 hb).size
    replace B0 := cell_next (below1 hb) nB B0
    replace B1 := cell_next (below1 hb) nB B1
    replace nB := Nat.lt_of_lt_of_le nB (below1 hb).size
    replace N0 := cell_next (below1 hb) nN N0
    replace N1 := cell_next (below1 hb) nN N1
    replace N2 := cell_next (below1 hb) nN N2
    replace nN := Nat.lt_of_lt_of_le nN (below1 hb).size
    replace p0 := cell_next (below1 hb) np p0
    replace p1 := cell_next (below1 hb) np p1
    replace np := Nat.lt_of_lt_of_le np (below1 hb).size
    replace q0 := cell_next (below1 hb) nq q0
    replace q1 := cell_next (below1 hb) nq q1
    replace nq := Nat.lt_of_lt_of_le nq (below1 hb).size
    replace r0 := cell_next (below1 hb) nr r0
    replace r1 := cell_next (below1 hb) nr r1
    replace nr := Nat.lt_of_lt_of_le nr (below1 hb).size
    replace s0 := cell_next (below1 hb) ns s0
    replace s1 := cell_next (below1 hb) ns s1
    replace ns := Nat.lt_of_lt_of_le ns (below1 hb).size
    have x0 := cell_next hb (b := W6.heap.size) (o := 0) (by simp <;> omega) (v := some (.int .i64 0)) (by simp [go_sem])
    have x1 := cell_next hb (b := W6.heap.size) (o := 1) (by simp <;> omega) (v := some (.int .i64 0)) (by simp [go_sem])
    have nx : W6.heap.size < W7.heap.size := by have := hb.size; simp at this; omega
    replace hB := hB.trans ((below1 hb).mono hB.size)
    clear hb
    generalize W6.heap.size = q7 at *
    go_wp2_with fail
    refine (c8.out _).mono ?_
    rintro e W8 ⟨rfl, hb⟩
    replace A0 := cell_next (below1 hb) nA A0
    replace A1 := cell_next (below1 hb) nA A1
    replace nA := Nat.lt_of_lt_of_le nA (below1 hb).size
    replace B0 := cell_next (below1 hb) nB B0
    replace B1 := cell_next (below1 hb) nB B1
    replace nB := Nat.lt_of_lt_of_le nB (below1 hb).size
    replace N0 := cell_next (below1 hb) nN N0
    replace N1 := cell_next (below1 hb) nN N1
    replace N2 := cell_next (below1 hb) nN N2
    replace nN := Nat.lt_of_lt_of_le nN (below1 hb).size
    replace p0 := cell_next (below1 hb) np p0
    replace p1 := cell_next (below1 hb) np p1
    replace np := Nat.lt_of_lt_of_le np (below1 hb).size
    replace q0 := cell_next (below1 hb) nq q0
    replace q1 := cell_next (below1 hb) nq q1
    replace nq := Nat.lt_of_lt_of_le nq (below1 hb).size
    replace r0 := cell_next (below1 hb) nr r0
    replace r1 := cell_next (below1 hb) nr r1
    replace nr := Nat.lt_of_lt_of_le nr (below1 hb).size
    replace s0 := cell_next (below1 hb) ns s0
    replace s1 := cell_next (below1 hb) ns s1
    replace ns := Nat.lt_of_lt_of_le ns (below1 hb).size
    replace x0 := cell_next (below1 hb) nx x0
    replace x1 := cell_next (below1 hb) nx x1
    replace nx := Nat.lt_of_lt_of_le nx (below1 hb).size
    have y0 := cell_next hb (b := W7.heap.size) (o := 0) (by simp <;> omega) (v := some (.int .i64 0)) (by simp [go_sem])
    have y1 := cell_next hb (b := W7.heap.size) (o := 1) (by simp <;> omega) (v := some (.int .i64 0)) (by simp [go_sem])
    have ny : W7.heap.size < W8.heap.size := by have := hb.size; simp at this; omega
    replace hB := hB.trans ((below1 hb).mono hB.size)
    clear hb
    generalize W7.heap.size = q8 at *
    clear p0 p1 np
    clear q0 q1 nq
    clear r0 r1 nr
    clear s0 s1 ns
    clear N0 N1 N2 nN
    go_wp2_with fail
    refine (HK.out _).mono ?_
    rintro e W9 ⟨rfl, hb⟩
    replace A0 := cell_next hb nA A0
    replace A1 := cell_next hb nA A1
    replace nA := Nat.lt_of_lt_of_le nA hb.size
    replace B0 := cell_next hb nB B0
    replace B1 := cell_next hb nB B1
    replace nB := Nat.lt_of_lt_of_le nB hb.size
    replace x0 := cell_next hb nx x0
    replace x1 := cell_next hb nx x1
    replace nx := Nat.lt_of_lt_of_le nx hb.size
    replace y0 := cell_next hb ny y0
    replace y1 := cell_next hb ny y1
    replace ny := Nat.lt_of_lt_of_le ny hb.size
    replace hB := hB.trans (hb.mono hB.size)
    clear hb
    go_wp2_with fail
    go_ret
    exact ⟨rfl, hB⟩
  · cases v
    · simp only [Bool.and_false, Bool.false_eq_true, if_false] at EV EC EA EB EE FA FB FE
      obtain rfl := EV.out
      obtain rfl := EC.out
      obtain rfl := EA.out
      obtain rfl := EB.out
      obtain rfl := EE.out
      obtain rfl := FA.out
      obtain rfl := FB.out
      obtain rfl := FE.out
      clear EV EC EA EB EE FA FB FE HV HC
      go_enter Try.func5, Try.ntmps5
      go_wp2_with fail
      refine (c1.out _).mono ?_
      rintro e W1 ⟨rfl, hb⟩
      have A0 := cell_next hb (b := w.heap.size) (o := 0) (by simp <;> omega) (v := some (.int .i64 a)) (by simp [go_sem])
      have A1 := cell_next hb (b := w.heap.size) (o := 1) (by simp <;> omega) (v := some (.int .i64 b)) (by simp [go_sem])
      have nA : w.heap.size < W1.heap.size := by have := hb.size; simp at this; omega
      have B0 := cell_next hb (b := w.heap.size + 1) (o := 0) (by simp <;> omega) (v := some (.int .i64 c)) (by simp [go_sem])
      have B1 := cell_next hb (b := w.heap.size + 1) (o := 1) (by simp <;> omega) (v := some (.int .i64 d)) (by simp [go_sem])
      have nB : w.heap.size + 1 < W1.heap.size := by have := hb.size; simp at this; omega
      have N0 := cell_next hb (b := w.heap.size + 1 + 1) (o := 0) (by simp <;> omega) (v := some (.int .i64 n0)) (by simp [go_sem])
      have N1 := cell_next hb (b := w.heap.size + 1 + 1) (o := 1) (by simp <;> omega) (v := some (.int .i64 n1)) (by simp [go_sem])
      have N2 := cell_next hb (b := w.heap.size + 1 + 1) (o := 2) (by simp <;> omega) (v := some (.int .i64 n2)) (by simp [go_sem])
      have nN : w.heap.size + 1 + 1 < W1.heap.size := by have := hb.size; simp at this; omega
      have hB := (below3 hb)
      clear hb
      go_wp2_with fail
      refine (c2.out _).mono ?_
      rintro e W2 ⟨rfl, hb⟩
      replace A0 := cell_next (below1 hb) nA A0
      replace A1 := cell_next (below1 hb) nA A1
      replace nA := Nat.lt_of_lt_of_le nA (below1 hb).size
      replace B0 := cell_next (below1 hb) nB B0
      replace B1 := cell_next (below1 hb) nB B1
      replace nB := Nat.lt_of_lt_of_le nB (below1 hb).size
      replace N0 := cell_next (below1 hb) nN N0
      replace N1 := cell_next (below1 hb) nN N1
      replace N2 := cell_next (below1 hb) nN N2
      replace nN := Nat.lt_of_lt_of_le nN (below1 hb).size
      have p0 := cell_next hb (b := W1.heap.size) (o := 0) (by simp <;> omega) (v := some (.int .i64 pn)) (by simp [go_sem])
      have p1 := cell_next hb (b := W1.heap.size) (o := 1) (by simp <;> omega) (v := some (.int .i64 pd)) (by simp [go_sem])
      have np : W1.heap.size < W2.heap.size := by have := hb.size; simp at this; omega
      replace hB := hB.trans ((below1 hb).mono hB.size)
      clear hb
      generalize W1.heap.size = q2 at *
      go_wp2_with fail
      refine (c3.out _).mono ?_
      rintro e W3 ⟨rfl, hb⟩
      replace A0 := cell_next (below1 hb) nA A0
      replace A1 := cell_next (below1 hb) nA A1
      replace nA := Nat.lt_of_lt_of_le nA (below1 hb).size
      replace B0 := cell_next (below1 hb) nB B0
      replace B1 := cell_next (below1 hb) nB B1
      replace nB := Nat.lt_of_lt_of_le nB (below1 hb).size
      replace N0 := cell_next (below1 hb) nN N0
      replace N1 := cell_next (below1 hb) nN N1
      replace N2 := cell_next (below1 hb) nN N2
      replace nN := Nat.lt_of_lt_of_le nN (below1 hb).size
      replace p0 := cell_next (below1 hb) np p0
      replace p1 := cell_next (below1 hb) np p1
      replace np := Nat.lt_of_lt_of_le np (below1 hb).size
      have q0 := cell_next hb (b := W2.heap.size) (o := 0) (by simp <;> omega) (v := some (.int .i64 pn)) (by simp [go_sem])
      have q1 := cell_next hb (b := W2.heap.size) (o := 1) (by simp <;> omega) (v := some (.int .i64 pd)) (by simp [go_sem])
      have nq : W2.heap.size < W3.heap.size := by have := hb.size; simp at this; omega
      replace hB := hB.trans ((below1 hb).mono hB.size)
      clear hb
      generalize W2.heap.size = q3 at *
      go_wp2_with fail
      refine (c4.out _).mono ?_
      rintro e W4 ⟨rfl, hb⟩
      replace A0 := cell_next (below1 hb) nA A0
      replace A1 := cell_next (below1 hb) nA A1
      replace nA := Nat.lt_of_lt_of_le nA (below1 hb).size
      replace B0 := cell_next (below1 hb) nB B0
      replace B1 := cell_next (below1 hb) nB B1
      replace nB := Nat.lt_of_lt_of_le nB (below1 hb).size
      replace N0 := cell_next (below1 hb) nN N0
      replace N1 := cell_next (below1 hb) nN N1
      replace N2 := cell_next (below1 hb) nN N2
      replace nN := Nat.lt_of_lt_of_le nN (below1 hb).size
      replace p0 := cell_next (below1 hb) np p0
      replace p1 := cell_next (below1 hb) np p1
      replace np := Nat.lt_of_lt_of_le np (below1 hb).size
      replace q0 := cell_next (below1 hb) nq q0
      replace q1 := cell_next (below1 hb) nq q1
      replace nq := Nat.lt_of_lt_of_le nq (below1 hb).size
      have r0 := cell_next hb (b := W3.heap.size) (o := 0) (by simp <;> omega) (v := some (.int .i64 ol)) (by simp [go_sem])
      have r1 := cell_next hb (b := W3.heap.size) (o := 1) (by simp <;> omega) (v := some (.int .i64 oh)) (by simp [go_sem])
      have nr : W3.heap.size < W4.heap.size := by have := hb.size; simp at this; omega
      replace hB := hB.trans ((below1 hb).mono hB.size)
      clear hb
      generalize W3.heap.size = q4 at *
      go_wp2_with fail
      refine (c5.out _).mono ?_
      rintro e W5 ⟨rfl, hb⟩
      replace A0 := cell_next (below1 hb) nA A0
      replace A1 := cell_next (below1 hb) nA A1
      replace nA := Nat.lt_of_lt_of_le nA (below1 hb).size
      replace B0 := cell_next (below1 hb) nB B0
      replace B1 := cell_next (below1 hb) nB B1
      replace nB := Nat.lt_of_lt_of_le nB (below1 hb).size
      replace N0 := cell_next (below1 hb) nN N0
      replace N1 := cell_next (below1 hb) nN N1
      replace N2 := cell_next (below1 hb) nN N2
      replace nN := Nat.lt_of_lt_of_le nN (below1 hb).size
      replace p0 := cell_next (below1 hb) np p0
      replace p1 := cell_next (below1 hb) np p1
      replace np := Nat.lt_of_lt_of_le np (below1 hb).size
      replace q0 := cell_next (below1 hb) nq q0
      replace q1 := cell_next (below1 hb) nq q1
      replace nq := Nat.lt_of_lt_of_le nq (below1 hb).size
      replace r0 := cell_next (below1 hb) nr r0
      replace r1 := cell_next (below1 hb) nr r1
      replace nr := Nat.lt_of_lt_of_le nr (below1 hb).size
      have s0 := cell_next hb (b := W4.heap.size) (o := 0) (by simp <;> omega) (v := some (.int .i64 ol)) (by simp [go_sem])
      have s1 := cell_next hb (b := W4.heap.size) (o := 1) (by simp <;> omega) (v := some (.int .i64 oh)) (by simp [go_sem])
      have ns : W4.heap.size < W5.heap.size := by have := hb.size; simp at this; omega
      replace hB := hB.trans ((below1 hb).mono hB.size)
      clear hb
      generalize W4.heap.size = q5 at *
      go_wp2_with fail
      refine (c6.out _).mono ?_
      rintro e W6 ⟨rfl, hb⟩
      replace A0 := cell_next hb nA A0
      replace A1 := cell_next hb nA A1
      replace nA := Nat.lt_of_lt_of_le nA hb.size
      replace B0 := cell_next hb nB B0
      replace B1 := cell_next hb nB B1
      replace nB := Nat.lt_of_lt_of_le nB hb.size
      replace N0 := cell_next hb nN N0
      replace N1 := cell_next hb nN N1
      replace N2 := cell_next hb nN N2
      replace nN := Nat.lt_of_lt_of_le nN hb.size
      replace p0 := cell_next hb np p0
      replace p1 := cell_next hb np p1
      replace np := Nat.lt_of_lt_of_le np hb.size
      replace q0 := cell_next hb nq q0
      replace q1 := cell_next hb nq q1
      replace nq := Nat.lt_of_lt_of_le nq hb.size
      replace r0 := cell_next hb nr r0
      replace r1 := cell_next hb nr r1
      replace nr := Nat.lt_of_lt_of_le nr hb.size
      replace s0 := cell_next hb ns s0
      replace s1 := cell_next hb ns s1
      replace ns := Nat.lt_of_lt_of_le ns hb.size
      replace hB := hB.trans (hb.mono hB.size)
      clear hb
      go_wp2_with fail
      refine (c7.out _).mono ?_
      rintro e W7 ⟨rfl, hb⟩
      replace A0 := cell_next (below1 hb) nA A0
      replace A1 := cell_next (below1 hb) nA A1
      replace nA := Nat.lt_of_lt_of_le nA (below1 hb).size
      replace B0 := cell_next (below1 hb) nB B0
      replace B1 := cell_next (below1 hb) nB B1
      replace nB := Nat.lt_of_lt_of_le nB (below1 hb).size
      replace N0 := cell_next (below1 hb) nN N0
      replace N1 := cell_next (below1 hb) nN N1
      replace N2 := cell_next (below1 hb) nN N2
      replace nN := Nat.lt_of_lt_of_le nN (below1 hb).size
      replace p0 := cell_next (below1 hb) np p0
      replace p1 := cell_next (below1 hb) np p1
      replace np := Nat.lt_of_lt_of_le np (below1 hb).size
      replace q0 := cell_next (below1 hb) nq q0
      replace q1 := cell_next (below1 hb) nq q1
      replace nq := Nat.lt_of_lt_of_le nq (below1 hb).size
      replace r0 := cell_next (below1 hb) nr r0
      replace r1 := cell_next (below1 hb) nr r1
      replace nr := Nat.lt_of_lt_of_le nr (below1 hb).size
      replace s0 := cell_next (below1 hb) ns s0
      replace s1 := cell_next (below1 hb) ns s1
      replace ns := Nat.lt_of_lt_of_le ns (below1 hb).size
      have x0 := cell_next hb (b := W6.heap.size) (o := 0) (by simp <;> omega) (v := some (.int .i64 0)) (by simp [go_sem])
      have x1 := cell_next hb (b := W6.heap.size) (o := 1) (by simp <;> omega) (v := some (.int .i64 0)) (by simp [go_sem])
      have nx : W6.heap.size < W7.heap.size := by have := hb.size; simp at this; omega
      replace hB := hB.trans ((below1 hb).mono hB.size)
      clear hb
      generalize W6.heap.size = q7 at *
      go_wp2_with fail
      refine (c8.out _).mono ?_
      rintro e W8 ⟨rfl, hb⟩
      replace A0 := cell_next (below1 hb) nA A0
      replace A1 := cell_next (below1 hb) nA A1
      replace nA := Nat.lt_of_lt_of_le nA (below1 hb).size
      replace B0 := cell_next (below1 hb) nB B0
      replace B1 := cell_next (below1 hb) nB B1
      replace nB := Nat.lt_of_lt_of_le nB (below1 hb).size
      replace N0 := cell_next (below1 hb) nN N0
      replace N1 := cell_next (below1 hb) nN N1
      replace N2 := cell_next (below1 hb) nN N2
      replace nN := Nat.lt_of_lt_of_le nN (below1 hb).size
      replace p0 := cell_next (below1 hb) np p0
      replace p1 := cell_next (below1 hb) np p1
      replace np := Nat.lt_of_lt_of_le np (below1 hb).size
      replace q0 := cell_next (below1 hb) nq q0
      replace q1 := cell_next (below1 hb) nq q1
      replace nq := Nat.lt_of_lt_of_le nq (below1 hb).size
      replace r0 := cell_next (below1 hb) nr r0
      replace r1 := cell_next (below1 hb) nr r1
      replace nr := Nat.lt_of_lt_of_le nr (below1 hb).size
      replace s0 := cell_next (below1 hb) ns s0
      replace s1 := cell_next (below1 hb) ns s1
      replace ns := Nat.lt_of_lt_of_le ns (below1 hb).size
      replace x0 := cell_next (below1 hb) nx x0
      replace x1 := cell_next (below1 hb) nx x1
      replace nx := Nat.lt_of_lt_of_le nx (below1 hb).size
      have y0 := cell_next hb (b := W7.heap.size) (o := 0) (by simp <;> omega) (v := some (.int .i64 0)) (by simp [go_sem])
      have y1 := cell_next hb (b := W7.heap.size) (o := 1) (by simp <;> omega) (v := some (.int .i64 0)) (by simp [go_sem])
      have ny : W7.heap.size < W8.heap.size := by have := hb.size; simp at this; omega
      replace hB := hB.trans ((below1 hb).mono hB.size)
      clear hb
      generalize W7.heap.size = q8 at *
      clear p0 p1 np
      clear q0 q1 nq
      clear r0 r1 nr
      clear s0 s1 ns
      clear N0 N1 N2 nN
      go_wp2_with fail
      refine (c9.out _).mono ?_
      rintro e W9 ⟨rfl, hb⟩
      replace A0 := cell_next hb nA A0
      replace A1 := cell_next hb nA A1
      replace nA := Nat.lt_of_lt_of_le nA hb.size
      replace B0 := cell_next hb nB B0
      replace B1 := cell_next hb nB B1
      replace nB := Nat.lt_of_lt_of_le nB hb.size
      replace x0 := cell_next hb nx x0
      replace x1 := cell_next hb nx x1
      replace nx := Nat.lt_of_lt_of_le nx hb.size
      replace y0 := cell_next hb ny y0
      replace y1 := cell_next hb ny y1
      replace ny := Nat.lt_of_lt_of_le ny hb.size
      replace hB := hB.trans (hb.mono hB.size)
      clear hb
      go_wp2_with fail
      refine (HK.out _).mono ?_
      rintro e W10 ⟨rfl, hb⟩
      replace A0 := cell_next hb nA A0
      replace A1 := cell_next hb nA A1
      replace nA := Nat.lt_of_lt_of_le nA hb.size
      replace B0 := cell_next hb nB B0
      replace B1 := cell_next hb nB B1
      replace nB := Nat.lt_of_lt_of_le nB hb.size
      replace x0 := cell_next hb nx x0
      replace x1 := cell_next hb nx x1
      replace nx := Nat.lt_of_lt_of_le nx hb.size
      replace y0 := cell_next hb ny y0
      replace y1 := cell_next hb ny y1
      replace ny := Nat.lt_of_lt_of_le ny hb.size
      replace hB := hB.trans (hb.mono hB.size)
      clear hb
      go_wp2_with fail
      go_ret
      exact ⟨rfl, hB⟩
    · simp only [Bool.and_self, if_true] at EV EC EA EB EE FA FB FE
      obtain ⟨⟨v1, v2⟩, ⟨v3, v4⟩, ⟨v5, v6⟩, ⟨v7, v8⟩⟩ := HV.out rfl rfl
      have d1 := Lib.hid (HC.out rfl rfl)
      have d2 := Lib.hid (rLowest_any (a * d + c * b) (b * d) ⟨by omega, by omega⟩ ⟨by omega, by omega⟩ (by omega))
      have d3 := Lib.hid (rLowest_any (a * c) (b * d) ⟨by omega, by omega⟩ ⟨by omega, by omega⟩ (by omega))
      have g0 : IntKind.i64.wrap (a * d) = a * d := IntWalk.i64_in _ (by omega)
      have g1 : IntKind.i64.wrap (c * b) = c * b := IntWalk.i64_in _ (by omega)
      have g2 : IntKind.i64.wrap (b * d) = b * d := IntWalk.i64_in _ (by omega)
      have g3 : IntKind.i64.wrap (a * c) = a * c := IntWalk.i64_in _ (by omega)
      have g4 : IntKind.i64.wrap (a * d + c * b) = a * d + c * b := IntWalk.i64_in _ (by omega)
      rw [← EV.out] at d1
      rw [← EA.out, ← EB.out, ← EE.out] at d2
      rw [← FA.out, ← FB.out, ← FE.out] at d3
      obtain rfl := EC.out
      clear EV EC EA EB EE FA FB FE HV HC v1 v2 v3 v4 v5 v6 v7 v8
      go_enter Try.func5, Try.ntmps5
      go_wp2_with fail
      refine (c1.out _).mono ?_
      rintro e W1 ⟨rfl, hb⟩
      have A0 := cell_next hb (b := w.heap.size) (o := 0) (by simp <;> omega) (v := some (.int .i64 a)) (by simp [go_sem])
      have A1 := cell_next hb (b := w.heap.size) (o := 1) (by simp <;> omega) (v := some (.int .i64 b)) (by simp [go_sem])
      have nA : w.heap.size < W1.heap.size := by have := hb.size; simp at this; omega
      have B0 := cell_next hb (b := w.heap.size + 1) (o := 0) (by simp <;> omega) (v := some (.int .i64 c)) (by simp [go_sem])
      have B1 := cell_next hb (b := w.heap.size + 1) (o := 1) (by simp <;> omega) (v := some (.int .i64 d)) (by simp [go_sem])
      have nB : w.heap.size + 1 < W1.heap.size := by have := hb.size; simp at this; omega
      have N0 := cell_next hb (b := w.heap.size + 1 + 1) (o := 0) (by simp <;> omega) (v := some (.int .i64 n0)) (by simp [go_sem])
      have N1 := cell_next hb (b := w.heap.size + 1 + 1) (o := 1) (by simp <;> omega) (v := some (.int .i64 n1)) (by simp [go_sem])
      have N2 := cell_next hb (b := w.heap.size + 1 + 1) (o := 2) (by simp <;> omega) (v := some (.int .i64 n2)) (by simp [go_sem])
      have nN : w.heap.size + 1 + 1 < W1.heap.size := by have := hb.size; simp at this; omega
      have hB := (below3 hb)
      clear hb
      go_wp2_with fail
      refine (c2.out _).mono ?_
      rintro e W2 ⟨rfl, hb⟩
      replace A0 := cell_next (below1 hb) nA A0
      replace A1 := cell_next (below1 hb) nA A1
      replace nA := Nat.lt_of_lt_of_le nA (below1 hb).size
      replace B0 := cell_next (below1 hb) nB B0
      replace B1 := cell_next (below1 hb) nB B1
      replace nB := Nat.lt_of_lt_of_le nB (below1 hb).size
      replace N0 := cell_next (below1 hb) nN N0
      replace N1 := cell_next (below1 hb) nN N1
      replace N2 := cell_next (below1 hb) nN N2
      replace nN := Nat.lt_of_lt_of_le nN (below1 hb).size
      have p0 := cell_next hb (b := W1.heap.size) (o := 0) (by simp <;> omega) (v := some (.int .i64 pn)) (by simp [go_sem])
      have p1 := cell_next hb (b := W1.heap.size) (o := 1) (by simp <;> omega) (v := some (.int .i64 pd)) (by simp [go_sem])
      have np : W1.heap.size < W2.heap.size := by have := hb.size; simp at this; omega
      replace hB := hB.trans ((below1 hb).mono hB.size)
      clear hb
      generalize W1.heap.size = q2 at *
      go_wp2_with fail
      refine (c3.out _).mono ?_
      rintro e W3 ⟨rfl, hb⟩
      replace A0 := cell_next (below1 hb) nA A0
      replace A1 := cell_next (below1 hb) nA A1
      replace nA := Nat.lt_of_lt_of_le nA (below1 hb).size
      replace B0 := cell_next (below1 hb) nB B0
      replace B1 := cell_next (below1 hb) nB B1
      replace nB := Nat.lt_of_lt_of_le nB (below1 hb).size
      replace N0 := cell_next (below1 hb) nN N0
      replace N1 := cell_next (below1 hb) nN N1
      replace N2 := cell_next (below1 hb) nN N2
      replace nN := Nat.lt_of_lt_of_le nN (below1 hb).size
      replace p0 := cell_next (below1 hb) np p0
      replace p1 := cell_next (below1 hb) np p1
      replace np := Nat.lt_of_lt_of_le np (below1 hb).size
      have q0 := cell_next hb (b := W2.heap.size) (o := 0) (by simp <;> omega) (v := some (.int .i64 pn)) (by simp [go_sem])
      have q1 := cell_next hb (b := W2.heap.size) (o := 1) (by simp <;> omega) (v := some (.int .i64 pd)) (by simp [go_sem])
      have nq : W2.heap.size < W3.heap.size := by have := hb.size; simp at this; omega
      replace hB := hB.trans ((below1 hb).mono hB.size)
      clear hb
      generalize W2.heap.size = q3 at *
      go_wp2_with fail
      refine (c4.out _).mono ?_
      rintro e W4 ⟨rfl, hb⟩
      replace A0 := cell_next (below1 hb) nA A0
      replace A1 := cell_next (below1 hb) nA A1
      replace nA := Nat.lt_of_lt_of_le nA (below1 hb).size
      replace B0 := cell_next (below1 hb) nB B0
      replace B1 := cell_next (below1 hb) nB B1
      replace nB := Nat.lt_of_lt_of_le nB (below1 hb).size
      replace N0 := cell_next (below1 hb) nN N0
      replace N1 := cell_next (below1 hb) nN N1
      replace N2 := cell_next (below1 hb) nN N2
      replace nN := Nat.lt_of_lt_of_le nN (below1 hb).size
      replace p0 := cell_next (below1 hb) np p0
      replace p1 := cell_next (below1 hb) np p1
      replace np := Nat.lt_of_lt_of_le np (below1 hb).size
      replace q0 := cell_next (below1 hb) nq q0
      replace q1 := cell_next (below1 hb) nq q1
      replace nq := Nat.lt_of_lt_of_le nq (below1 hb).size
      have r0 := cell_next hb (b := W3.heap.size) (o := 0) (by simp <;> omega) (v := some (.int .i64 ol)) (by simp [go_sem])
      have r1 := cell_next hb (b := W3.heap.size) (o := 1) (by simp <;> omega) (v := some (.int .i64 oh)) (by simp [go_sem])
      have nr : W3.heap.size < W4.heap.size := by have := hb.size; simp at this; omega
      replace hB := hB.trans ((below1 hb).mono hB.size)
      clear hb
      generalize W3.heap.size = q4 at *
      go_wp2_with fail
      refine (c5.out _).mono ?_
      rintro e W5 ⟨rfl, hb⟩
      replace A0 := cell_next (below1 hb) nA A0
      replace A1 := cell_next (below1 hb) nA A1
      replace nA := Nat.lt_of_lt_of_le nA (below1 hb).size
      replace B0 := cell_next (below1 hb) nB B0
      replace B1 := cell_next (below1 hb) nB B1
      replace nB := Nat.lt_of_lt_of_le nB (below1 hb).size
      replace N0 := cell_next (below1 hb) nN N0
      replace N1 := cell_next (below1 hb) nN N1
      replace N2 := cell_next (below1 hb) nN N2
      replace nN := Nat.lt_of_lt_of_le nN (below1 hb).size
      replace p0 := cell_next (below1 hb) np p0
      replace p1 := cell_next (below1 hb) np p1
      replace np := Nat.lt_of_lt_of_le np (below1 hb).size
      replace q0 := cell_next (below1 hb) nq q0
      replace q1 := cell_next (below1 hb) nq q1
      replace nq := Nat.lt_of_lt_of_le nq (below1 hb).size
      replace r0 := cell_next (below1 hb) nr r0
      replace r1 := cell_next (below1 hb) nr r1
      replace nr := Nat.lt_of_lt_of_le nr (below1 hb).size
      have s0 := cell_next hb (b := W4.heap.size) (o := 0) (by simp <;> omega) (v := some (.int .i64 ol)) (by simp [go_sem])
      have s1 := cell_next hb (b := W4.heap.size) (o := 1) (by simp <;> omega) (v := some (.int .i64 oh)) (by simp [go_sem])
      have ns : W4.heap.size < W5.heap.size := by have := hb.size; simp at this; omega
      replace hB := hB.trans ((below1 hb).mono hB.size)
      clear hb
      generalize W4.heap.size = q5 at *
      go_wp2_with fail
      refine (c6.out _).mono ?_
      rintro e W6 ⟨rfl, hb⟩
      replace A0 := cell_next hb nA A0
      replace A1 := cell_next hb nA A1
      replace nA := Nat.lt_of_lt_of_le nA hb.size
      replace B0 := cell_next hb nB B0
      replace B1 := cell_next hb nB B1
      replace nB := Nat.lt_of_lt_of_le nB hb.size
      replace N0 := cell_next hb nN N0
      replace N1 := cell_next hb nN N1
      replace N2 := cell_next hb nN N2
      replace nN := Nat.lt_of_lt_of_le nN hb.size
      replace p0 := cell_next hb np p0
      replace p1 := cell_next hb np p1
      replace np := Nat.lt_of_lt_of_le np hb.size
      replace q0 := cell_next hb nq q0
      replace q1 := cell_next hb nq q1
      replace nq := Nat.lt_of_lt_of_le nq hb.size
      replace r0 := cell_next hb nr r0
      replace r1 := cell_next hb nr r1
      replace nr := Nat.lt_of_lt_of_le nr hb.size
      replace s0 := cell_next hb ns s0
      replace s1 := cell_next hb ns s1
      replace ns := Nat.lt_of_lt_of_le ns hb.size
      replace hB := hB.trans (hb.mono hB.size)
      clear hb
      go_wp2_with fail
      refine (c7.out _).mono ?_
      rintro e W7 ⟨rfl, hb⟩
      replace A0 := cell_next (below1 hb) nA A0
      replace A1 := cell_next (below1 hb) nA A1
      replace nA := Nat.lt_of_lt_of_le nA (below1 hb).size
      replace B0 := cell_next (below1 hb) nB B0
      replace B1 := cell_next (below1 hb) nB B1
      replace nB := Nat.lt_of_lt_of_le nB (below1 hb).size
      replace N0 := cell_next (below1 hb) nN N0
      replace N1 := cell_next (below1 hb) nN N1
      replace N2 := cell_next (below1 hb) nN N2
      replace nN := Nat.lt_of_lt_of_le nN (below1 hb).size
      replace p0 := cell_next (below1 hb) np p0
      replace p1 := cell_next (below1 hb) np p1
      replace np := Nat.lt_of_lt_of_le np (below1 hb).size
      replace q0 := cell_next (below1 hb) nq q0
      replace q1 := cell_next (below1 hb) nq q1
      replace nq := Nat.lt_of_lt_of_le nq (below1 hb).size
      replace r0 := cell_next (below1 hb) nr r0
      replace r1 := cell_next (below1 hb) nr r1
      replace nr := Nat.lt_of_lt_of_le nr (below1 hb).size
      replace s0 := cell_next (below1 hb) ns s0
      replace s1 := cell_next (below1 hb) ns s1
      replace ns := Nat.lt_of_lt_of_le ns (below1 hb).size
      have x0 := cell_next hb (b := W6.heap.size) (o := 0) (by simp <;> omega) (v := some (.int .i64 an)) (by simp [go_sem])
      have x1 := cell_next hb (b := W6.heap.size) (o := 1) (by simp <;> omega) (v := some (.int .i64 aq)) (by simp [go_sem])
      have nx : W6.heap.size < W7.heap.size := by have := hb.size; simp at this; omega
      replace hB := hB.trans ((below1 hb).mono hB.size)
      clear hb
      generalize W6.heap.size = q7 at *
      go_wp2_with fail
      refine (c8.out _).mono ?_
      rintro e W8 ⟨rfl, hb⟩
      replace A0 := cell_next (below1 hb) nA A0
      replace A1 := cell_next (below1 hb) nA A1
      replace nA := Nat.lt_of_lt_of_le nA (below1 hb).size
      replace B0 := cell_next (below1 hb) nB B0
      replace B1 := cell_next (below1 hb) nB B1
      replace nB := Nat.lt_of_lt_of_le nB (below1 hb).size
      replace N0 := cell_next (below1 hb) nN N0
      replace N1 := cell_next (below1 hb) nN N1
      replace N2 := cell_next (below1 hb) nN N2
      replace nN := Nat.lt_of_lt_of_le nN (below1 hb).size
      replace p0 := cell_next (below1 hb) np p0
      replace p1 := cell_next (below1 hb) np p1
      replace np := Nat.lt_of_lt_of_le np (below1 hb).size
      replace q0 := cell_next (below1 hb) nq q0
      replace q1 := cell_next (below1 hb) nq q1
      replace nq := Nat.lt_of_lt_of_le nq (below1 hb).size
      replace r0 := cell_next (below1 hb) nr r0
      replace r1 := cell_next (below1 hb) nr r1
      replace nr := Nat.lt_of_lt_of_le nr (below1 hb).size
      replace s0 := cell_next (below1 hb) ns s0
      replace s1 := cell_next (below1 hb) ns s1
      replace ns := Nat.lt_of_lt_of_le ns (below1 hb).size
      replace x0 := cell_next (below1 hb) nx x0
      replace x1 := cell_next (below1 hb) nx x1
      replace nx := Nat.lt_of_lt_of_le nx (below1 hb).size
      have y0 := cell_next hb (b := W7.heap.size) (o := 0) (by simp <;> omega) (v := some (.int .i64 mn)) (by simp [go_sem])
      have y1 := cell_next hb (b := W7.heap.size) (o := 1) (by simp <;> omega) (v := some (.int .i64 mq)) (by simp [go_sem])
      have ny : W7.heap.size < W8.heap.size := by have := hb.size; simp at this; omega
      replace hB := hB.trans ((below1 hb).mono hB.size)
      clear hb
      generalize W7.heap.size = q8 at *
      clear p0 p1 np
      clear q0 q1 nq
      clear r0 r1 nr
      clear s0 s1 ns
      clear N0 N1 N2 nN
      go_wp2_with fail
      refine (c9.out _).mono ?_
      rintro e W9 ⟨rfl, hb⟩
      replace A0 := cell_next hb nA A0
      replace A1 := cell_next hb nA A1
      replace nA := Nat.lt_of_lt_of_le nA hb.size
      replace B0 := cell_next hb nB B0
      replace B1 := cell_next hb nB B1
      replace nB := Nat.lt_of_lt_of_le nB hb.size
      replace x0 := cell_next hb nx x0
      replace x1 := cell_next hb nx x1
      replace nx := Nat.lt_of_lt_of_le nx hb.size
      replace y0 := cell_next hb ny y0
      replace y1 := cell_next hb ny y1
      replace ny := Nat.lt_of_lt_of_le ny hb.size
      replace hB := hB.trans (hb.mono hB.size)
      clear hb
      go_wp2_with fail
      refine (d2.out _).mono ?_
      rintro e W10 ⟨rfl, hb⟩
      replace A0 := cell_next hb nA A0
      replace A1 := cell_next hb nA A1
      replace nA := Nat.lt_of_lt_of_le nA hb.size
      replace B0 := cell_next hb nB B0
      replace B1 := cell_next hb nB B1
      replace nB := Nat.lt_of_lt_of_le nB hb.size
      replace x0 := cell_next hb nx x0
      replace x1 := cell_next hb nx x1
      replace nx := Nat.lt_of_lt_of_le nx hb.size
      replace y0 := cell_next hb ny y0
      replace y1 := cell_next hb ny y1
      replace ny := Nat.lt_of_lt_of_le ny hb.size
      replace hB := hB.trans (hb.mono hB.size)
      clear hb
      go_wp2_with fail
      refine (d3.out _).mono ?_
      rintro e W11 ⟨rfl, hb⟩
      replace A0 := cell_next (below1 hb) nA A0
      replace A1 := cell_next (below1 hb) nA A1
      replace nA := Nat.lt_of_lt_of_le nA (below1 hb).size
      replace B0 := cell_next (below1 hb) nB B0
      replace B1 := cell_next (below1 hb) nB B1
      replace nB := Nat.lt_of_lt_of_le nB (below1 hb).size
      replace x0 := cell_next (below1 hb) nx x0
      replace x1 := cell_next (below1 hb) nx x1
      replace nx := Nat.lt_of_lt_of_le nx (below1 hb).size
      replace y0 := cell_next (below1 hb) ny y0
      replace y1 := cell_next (below1 hb) ny y1
      replace ny := Nat.lt_of_lt_of_le ny (below1 hb).size
      have u0 := cell_next hb (b := W10.heap.size) (o := 0) (by simp <;> omega) (v := some (.int .i64 an)) (by simp [go_sem])
      have u1 := cell_next hb (b := W10.heap.size) (o := 1) (by simp <;> omega) (v := some (.int .i64 aq)) (by simp [go_sem])
      have nu : W10.heap.size < W11.heap.size := by have := hb.size; simp at this; omega
      replace hB := hB.trans ((below1 hb).mono hB.size)
      clear hb
      generalize W10.heap.size = q11 at *
      go_wp2_with fail
      refine (d1.out _).mono ?_
      rintro e W12 ⟨rfl, hb⟩
      replace A0 := cell_next (below1 hb) nA A0
      replace A1 := cell_next (below1 hb) nA A1
      replace nA := Nat.lt_of_lt_of_le nA (below1 hb).size
      replace B0 := cell_next (below1 hb) nB B0
      replace B1 := cell_next (below1 hb) nB B1
      replace nB := Nat.lt_of_lt_of_le nB (below1 hb).size
      replace x0 := cell_next (below1 hb) nx x0
      replace x1 := cell_next (below1 hb) nx x1
      replace nx := Nat.lt_of_lt_of_le nx (below1 hb).size
      replace y0 := cell_next (below1 hb) ny y0
      replace y1 := cell_next (below1 hb) ny y1
      replace ny := Nat.lt_of_lt_of_le ny (below1 hb).size
      replace u0 := cell_next (below1 hb) nu u0
      replace u1 := cell_next (below1 hb) nu u1
      replace nu := Nat.lt_of_lt_of_le nu (below1 hb).size
      have z0 := cell_next hb (b := W11.heap.size) (o := 0) (by simp <;> omega) (v := some (.int .i64 mn)) (by simp [go_sem])
      have z1 := cell_next hb (b := W11.heap.size) (o := 1) (by simp <;> omega) (v := some (.int .i64 mq)) (by simp [go_sem])
      have nz : W11.heap.size < W12.heap.size := by have := hb.size; simp at this; omega
      replace hB := hB.trans ((below1 hb).mono hB.size)
      clear hb
      generalize W11.heap.size = q12 at *
      go_wp2_with fail
      refine (HK.out _).mono ?_
      rintro e W13 ⟨rfl, hb⟩
      replace A0 := cell_next hb nA A0
      replace A1 := cell_next hb nA A1
      replace nA := Nat.lt_of_lt_of_le nA hb.size
      replace B0 := cell_next hb nB B0
      replace B1 := cell_next hb nB B1
      replace nB := Nat.lt_of_lt_of_le nB hb.size
      replace x0 := cell_next hb nx x0
      replace x1 := cell_next hb nx x1
      replace nx := Nat.lt_of_lt_of_le nx hb.size
      replace y0 := cell_next hb ny y0
      replace y1 := cell_next hb ny y1
      replace ny := Nat.lt_of_lt_of_le ny hb.size
      replace u0 := cell_next hb nu u0
      replace u1 := cell_next hb nu u1
      replace nu := Nat.lt_of_lt_of_le nu hb.size
      replace z0 := cell_next hb nz z0
      replace z1 := cell_next hb nz z1
      replace nz := Nat.lt_of_lt_of_le nz hb.size
      replace hB := hB.trans (hb.mono hB.size)
      clear hb
      go_wp2_with fail
      go_ret
      exact ⟨rfl, hB⟩
end Go.Proofs.Ytiibbnbknmeplaa
