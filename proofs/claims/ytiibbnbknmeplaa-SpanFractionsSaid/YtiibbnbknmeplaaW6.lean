/- The walk of the statement on parts: the Go text returns true. -/
import Derived.Test.YtiibbnbknmeplaaC15
import Derived.StillTailTactics
namespace Go.Proofs.Ytiibbnbknmeplaa
open Go.RowKit Go.Lib
set_option linter.unusedVariables false
set_option linter.unusedSimpArgs false
attribute [local go_sem ↓] Go.wp_at_zero Go.wp_at_succ


theorem region_tail {P : Program} {id : Nat} {Q : Exit → Act → World → Prop} {a : Act} {w : World} {l : List Oper} (n : Nat) (hm : P.follows .mixedOrders = true) (hB : Region.lexTailB .any l.toArray n = true)
    (h : ∀ W : World, Below w.heap.size w W → wpStill P l.toArray W (fun a' => wpList P l.toArray Q (l.drop n) a' W) (l.take n) a) : (Code.region id l.toArray true).wp P Q a w :=
  wp_region_still_tail n hm hB (h _ ⟨rfl, rfl, rfl, Nat.le_refl _, fun _ _ => rfl⟩)

def Knows : Prop := ∀ w : World, Calls Try.prog 16 #[] w fun e w' => e = .returned (.bool true) ∧ Below w.heap.size w w'
/-- the first two calls -/
structure FA (a0 a1 b0 b1 xn xd xe yn yd ye : Int) : Prop where
  c1 : ∀ w : World, Calls Try.prog 35 #[.int .i64 a0, .int .i64 a1] w fun e w' => e = .returned (.tuple #[.agg #[.int .i64 xn, .int .i64 xd], .int .i64 xe]) ∧ Below w.heap.size w w'
  c2 : ∀ w : World, Calls Try.prog 35 #[.int .i64 b0, .int .i64 b1] w fun e w' => e = .returned (.tuple #[.agg #[.int .i64 yn, .int .i64 yd], .int .i64 ye]) ∧ Below w.heap.size w w'
/-- the calls behind them -/
structure FB (xn xd yn yd sn sd se pn pd pe c d ln ld le : Int) : Prop where
  c3 : ∀ w : World, Calls Try.prog 40 #[.agg #[.int .i64 xn, .int .i64 xd], .agg #[.int .i64 yn, .int .i64 yd]] w fun e w' => e = .returned (.tuple #[.agg #[.int .i64 sn, .int .i64 sd], .int .i64 se]) ∧ Below w.heap.size w w'
  c4 : ∀ w : World, Calls Try.prog 40 #[.agg #[.int .i64 yn, .int .i64 yd], .agg #[.int .i64 xn, .int .i64 xd]] w fun e w' => e = .returned (.tuple #[.agg #[.int .i64 sn, .int .i64 sd], .int .i64 se]) ∧ Below w.heap.size w w'
  c5 : ∀ w : World, Calls Try.prog 41 #[.agg #[.int .i64 xn, .int .i64 xd], .agg #[.int .i64 yn, .int .i64 yd]] w fun e w' => e = .returned (.tuple #[.agg #[.int .i64 pn, .int .i64 pd], .int .i64 pe]) ∧ Below w.heap.size w w'
  c6 : ∀ w : World, Calls Try.prog 41 #[.agg #[.int .i64 yn, .int .i64 yd], .agg #[.int .i64 xn, .int .i64 xd]] w fun e w' => e = .returned (.tuple #[.agg #[.int .i64 pn, .int .i64 pd], .int .i64 pe]) ∧ Below w.heap.size w w'
  c7 : ∀ w : World, Calls Try.prog 39 #[.agg #[.int .i64 xn, .int .i64 xd], .agg #[.int .i64 yn, .int .i64 yd]] w fun e w' => e = .returned (.tuple #[.int .i64 c, .int .i64 0]) ∧ Below w.heap.size w w'
  c8 : ∀ w : World, Calls Try.prog 39 #[.agg #[.int .i64 yn, .int .i64 yd], .agg #[.int .i64 xn, .int .i64 xd]] w fun e w' => e = .returned (.tuple #[.int .i64 d, .int .i64 0]) ∧ Below w.heap.size w w'
  c9 : ∀ w : World, Calls Try.prog 40 #[.agg #[.int .i64 sn, .int .i64 sd], .agg #[.int .i64 (-yn), .int .i64 yd]] w fun e w' => e = .returned (.tuple #[.agg #[.int .i64 ln, .int .i64 ld], .int .i64 le]) ∧ Below w.heap.size w w'
/-- how the numbers lie -/
structure FN (a0 a1 b0 b1 xn xd yn yd c d : Int) : Prop where
  a0l : -32768 ≤ a0
  a0h : a0 ≤ 32767
  a1l : -32768 ≤ a1
  a1h : a1 ≤ 32767
  b0l : -32768 ≤ b0
  b0h : b0 ≤ 32767
  b1l : -32768 ≤ b1
  b1h : b1 ≤ 32767
  xnl : -32768 ≤ xn
  xnh : xn ≤ 32768
  xdl : 1 ≤ xd
  xdh : xd ≤ 32768
  ynl : -32768 ≤ yn
  ynh : yn ≤ 32768
  ydl : 1 ≤ yd
  ydh : yd ≤ 32768
  dl : -1 ≤ d
  dh : d ≤ 1
  ht : xn * a1 = xd * a0
  hc : c = -d

set_option maxRecDepth 100000 in
set_option maxHeartbeats 4000000 in
theorem frac_0 (hk : Knows) (a0 b0 b1 xn xd yn yd ye n : Int) (w : World) (hA : FA a0 0 b0 b1 xn xd 3 yn yd ye) (h1 : -32768 ≤ a0) (h2 : a0 ≤ 32767) (h3 : -32768 ≤ b0) (h4 : b0 ≤ 32767) (h5 : -32768 ≤ b1) (h6 : b1 ≤ 32767) :
    Calls Try.prog 15 #[.agg #[.int .i16 a0, .int .i16 0], .agg #[.int .i16 b0, .int .i16 b1], .int .i32 n] w fun e w' => e = .returned (.bool true) ∧ Below w.heap.size w w' := by
  have K := Lib.hid hA
  have HK := Lib.hid hk
  clear hA hk
  go_enter Try.func15, Try.ntmps15
  go_wp2_with fail
  refine (K.out.c1 _).mono ?_
  rintro e W1 ⟨rfl, hb⟩
  have A0 := cell_next hb (b := w.heap.size) (o := 0) (by simp <;> omega) (v := some (.int .i16 a0)) (by simp [go_sem])
  have A1 := cell_next hb (b := w.heap.size) (o := 1) (by simp <;> omega) (v := some (.int .i16 0)) (by simp [go_sem])
  have nA : w.heap.size < W1.heap.size := by have := hb.size; simp at this; omega
  have B0 := cell_next hb (b := w.heap.size + 1) (o := 0) (by simp <;> omega) (v := some (.int .i16 b0)) (by simp [go_sem])
  have B1 := cell_next hb (b := w.heap.size + 1) (o := 1) (by simp <;> omega) (v := some (.int .i16 b1)) (by simp [go_sem])
  have nB : w.heap.size + 1 < W1.heap.size := by have := hb.size; simp at this; omega
  have hB := (below2 hb)
  clear hb
  go_wp2_with fail
  refine (K.out.c2 _).mono ?_
  rintro e W2 ⟨rfl, hb⟩
  replace A0 := cell_next (below1 hb) nA A0
  replace A1 := cell_next (below1 hb) nA A1
  replace nA := Nat.lt_of_lt_of_le nA (below1 hb).size
  replace B0 := cell_next (below1 hb) nB B0
  replace B1 := cell_next (below1 hb) nB B1
  replace nB := Nat.lt_of_lt_of_le nB (below1 hb).size
  have x0 := cell_next hb (b := W1.heap.size) (o := 0) (by simp <;> omega) (v := some (.int .i64 xn)) (by simp [go_sem])
  have x1 := cell_next hb (b := W1.heap.size) (o := 1) (by simp <;> omega) (v := some (.int .i64 xd)) (by simp [go_sem])
  have nx : W1.heap.size < W2.heap.size := by have := hb.size; simp at this; omega
  replace hB := hB.trans ((below1 hb).mono hB.size)
  clear hb
  generalize W1.heap.size = q2 at *
  go_wp2_with fail
  refine (HK.out _).mono ?_
  rintro e W3 ⟨rfl, hb⟩
  replace A0 := cell_next (below1 hb) nA A0
  replace A1 := cell_next (below1 hb) nA A1
  replace nA := Nat.lt_of_lt_of_le nA (below1 hb).size
  replace B0 := cell_next (below1 hb) nB B0
  replace B1 := cell_next (below1 hb) nB B1
  replace nB := Nat.lt_of_lt_of_le nB (below1 hb).size
  replace x0 := cell_next (below1 hb) nx x0
  replace x1 := cell_next (below1 hb) nx x1
  replace nx := Nat.lt_of_lt_of_le nx (below1 hb).size
  have y0 := cell_next hb (b := W2.heap.size) (o := 0) (by simp <;> omega) (v := some (.int .i64 yn)) (by simp [go_sem])
  have y1 := cell_next hb (b := W2.heap.size) (o := 1) (by simp <;> omega) (v := some (.int .i64 yd)) (by simp [go_sem])
  have ny : W2.heap.size < W3.heap.size := by have := hb.size; simp at this; omega
  replace hB := hB.trans ((below1 hb).mono hB.size)
  clear hb
  generalize W2.heap.size = q3 at *
  go_wp2_with fail
  go_ret
  exact ⟨rfl, hB⟩

set_option maxRecDepth 100000 in
set_option maxHeartbeats 4000000 in
theorem frac_1 (hk : Knows) (a0 a1 b0 xn xd yn yd n : Int) (w : World) (hA : FA a0 a1 b0 0 xn xd 0 yn yd 3) (h1 : -32768 ≤ a0) (h2 : a0 ≤ 32767) (h3 : -32768 ≤ b0) (h4 : b0 ≤ 32767) (h5 : -32768 ≤ a1) (h6 : a1 ≤ 32767) :
    Calls Try.prog 15 #[.agg #[.int .i16 a0, .int .i16 a1], .agg #[.int .i16 b0, .int .i16 0], .int .i32 n] w fun e w' => e = .returned (.bool true) ∧ Below w.heap.size w w' := by
  have K := Lib.hid hA
  have HK := Lib.hid hk
  clear hA hk
  go_enter Try.func15, Try.ntmps15
  go_wp2_with fail
  refine (K.out.c1 _).mono ?_
  rintro e W1 ⟨rfl, hb⟩
  have A0 := cell_next hb (b := w.heap.size) (o := 0) (by simp <;> omega) (v := some (.int .i16 a0)) (by simp [go_sem])
  have A1 := cell_next hb (b := w.heap.size) (o := 1) (by simp <;> omega) (v := some (.int .i16 a1)) (by simp [go_sem])
  have nA : w.heap.size < W1.heap.size := by have := hb.size; simp at this; omega
  have B0 := cell_next hb (b := w.heap.size + 1) (o := 0) (by simp <;> omega) (v := some (.int .i16 b0)) (by simp [go_sem])
  have B1 := cell_next hb (b := w.heap.size + 1) (o := 1) (by simp <;> omega) (v := some (.int .i16 0)) (by simp [go_sem])
  have nB : w.heap.size + 1 < W1.heap.size := by have := hb.size; simp at this; omega
  have hB := (below2 hb)
  clear hb
  go_wp2_with fail
  refine (K.out.c2 _).mono ?_
  rintro e W2 ⟨rfl, hb⟩
  replace A0 := cell_next (below1 hb) nA A0
  replace A1 := cell_next (below1 hb) nA A1
  replace nA := Nat.lt_of_lt_of_le nA (below1 hb).size
  replace B0 := cell_next (below1 hb) nB B0
  replace B1 := cell_next (below1 hb) nB B1
  replace nB := Nat.lt_of_lt_of_le nB (below1 hb).size
  have x0 := cell_next hb (b := W1.heap.size) (o := 0) (by simp <;> omega) (v := some (.int .i64 xn)) (by simp [go_sem])
  have x1 := cell_next hb (b := W1.heap.size) (o := 1) (by simp <;> omega) (v := some (.int .i64 xd)) (by simp [go_sem])
  have nx : W1.heap.size < W2.heap.size := by have := hb.size; simp at this; omega
  replace hB := hB.trans ((below1 hb).mono hB.size)
  clear hb
  generalize W1.heap.size = q2 at *
  go_wp2_with fail
  refine (HK.out _).mono ?_
  rintro e W3 ⟨rfl, hb⟩
  replace A0 := cell_next (below1 hb) nA A0
  replace A1 := cell_next (below1 hb) nA A1
  replace nA := Nat.lt_of_lt_of_le nA (below1 hb).size
  replace B0 := cell_next (below1 hb) nB B0
  replace B1 := cell_next (below1 hb) nB B1
  replace nB := Nat.lt_of_lt_of_le nB (below1 hb).size
  replace x0 := cell_next (below1 hb) nx x0
  replace x1 := cell_next (below1 hb) nx x1
  replace nx := Nat.lt_of_lt_of_le nx (below1 hb).size
  have y0 := cell_next hb (b := W2.heap.size) (o := 0) (by simp <;> omega) (v := some (.int .i64 yn)) (by simp [go_sem])
  have y1 := cell_next hb (b := W2.heap.size) (o := 1) (by simp <;> omega) (v := some (.int .i64 yd)) (by simp [go_sem])
  have ny : W2.heap.size < W3.heap.size := by have := hb.size; simp at this; omega
  replace hB := hB.trans ((below1 hb).mono hB.size)
  clear hb
  generalize W2.heap.size = q3 at *
  go_wp2_with fail
  go_ret
  exact ⟨rfl, hB⟩

set_option maxRecDepth 100000 in
set_option maxHeartbeats 4000000 in
theorem frac_o1 (hk : Knows) (a0 a1 b0 b1 xn xd yn yd sn sd se pn pd c d ln ld le n : Int) (w : World) (hA : FA a0 a1 b0 b1 xn xd 0 yn yd 0) (hB0 : FB xn xd yn yd sn sd se pn pd 10 c d ln ld le) (hN : FN a0 a1 b0 b1 xn xd yn yd c d) :
    Calls Try.prog 15 #[.agg #[.int .i16 a0, .int .i16 a1], .agg #[.int .i16 b0, .int .i16 b1], .int .i32 n] w fun e w' => e = .returned (.bool true) ∧ Below w.heap.size w w' := by
  have K := Lib.hid hA
  have L := Lib.hid hB0
  have HK := Lib.hid hk
  obtain ⟨g1, g2, g3, g4, g5, g6, g7, g8, g9, g10, g11, g12, g13, g14, g15, g16, g17, g18, ht, hc⟩ := hN
  have m1 : IntKind.i64.wrap (xn * a1) = xn * a1 := IntWalk.i64_in _ (by have : (xn * a1).natAbs ≤ 32768 * 32768 := (by rw [Int.natAbs_mul]; exact Nat.mul_le_mul (by omega) (by omega)); omega)
  have m2 : IntKind.i64.wrap (xd * a0) = xd * a0 := IntWalk.i64_in _ (by have : (xd * a0).natAbs ≤ 32768 * 32768 := (by rw [Int.natAbs_mul]; exact Nat.mul_le_mul (by omega) (by omega)); omega)
  have t1 : (xn * a1 != xd * a0) = false := by simp [ht]
  have t2 : (c == -d) = true := by simp [hc]
  have t3 : (c != -d) = false := by simp [hc]
  clear hA hB0 hk ht hc
  go_enter Try.func15, Try.ntmps15
  go_wp2_with fail
  refine (K.out.c1 _).mono ?_
  rintro e W1 ⟨rfl, hb⟩
  have A0 := cell_next hb (b := w.heap.size) (o := 0) (by simp <;> omega) (v := some (.int .i16 a0)) (by simp [go_sem])
  have A1 := cell_next hb (b := w.heap.size) (o := 1) (by simp <;> omega) (v := some (.int .i16 a1)) (by simp [go_sem])
  have nA : w.heap.size < W1.heap.size := by have := hb.size; simp at this; omega
  have B0 := cell_next hb (b := w.heap.size + 1) (o := 0) (by simp <;> omega) (v := some (.int .i16 b0)) (by simp [go_sem])
  have B1 := cell_next hb (b := w.heap.size + 1) (o := 1) (by simp <;> omega) (v := some (.int .i16 b1)) (by simp [go_sem])
  have nB : w.heap.size + 1 < W1.heap.size := by have := hb.size; simp at this; omega
  have hB := (below2 hb)
  clear hb
  go_wp2_with fail
  refine (K.out.c2 _).mono ?_
  rintro e W2 ⟨rfl, hb⟩
  replace A0 := cell_next (below1 hb) nA A0
  replace A1 := cell_next (below1 hb) nA A1
  replace nA := Nat.lt_of_lt_of_le nA (below1 hb).size
  replace B0 := cell_next (below1 hb) nB B0
  replace B1 := cell_next (below1 hb) nB B1
  replace nB := Nat.lt_of_lt_of_le nB (below1 hb).size
  have x0 := cell_next hb (b := W1.heap.size) (o := 0) (by simp <;> omega) (v := some (.int .i64 xn)) (by simp [go_sem])
  have x1 := cell_next hb (b := W1.heap.size) (o := 1) (by simp <;> omega) (v := some (.int .i64 xd)) (by simp [go_sem])
  have nx : W1.heap.size < W2.heap.size := by have := hb.size; simp at this; omega
  replace hB := hB.trans ((below1 hb).mono hB.size)
  clear hb
  generalize W1.heap.size = q2 at *
  go_wp2_with fail
  refine (L.out.c3 _).mono ?_
  rintro e W3 ⟨rfl, hb⟩
  replace A0 := cell_next (below1 hb) nA A0
  replace A1 := cell_next (below1 hb) nA A1
  replace nA := Nat.lt_of_lt_of_le nA (below1 hb).size
  replace B0 := cell_next (below1 hb) nB B0
  replace B1 := cell_next (below1 hb) nB B1
  replace nB := Nat.lt_of_lt_of_le nB (below1 hb).size
  replace x0 := cell_next (below1 hb) nx x0
  replace x1 := cell_next (below1 hb) nx x1
  replace nx := Nat.lt_of_lt_of_le nx (below1 hb).size
  have y0 := cell_next hb (b := W2.heap.size) (o := 0) (by simp <;> omega) (v := some (.int .i64 yn)) (by simp [go_sem])
  have y1 := cell_next hb (b := W2.heap.size) (o := 1) (by simp <;> omega) (v := some (.int .i64 yd)) (by simp [go_sem])
  have ny : W2.heap.size < W3.heap.size := by have := hb.size; simp at this; omega
  replace hB := hB.trans ((below1 hb).mono hB.size)
  clear hb
  generalize W2.heap.size = q3 at *
  go_wp2_with fail
  refine (L.out.c4 _).mono ?_
  rintro e W4 ⟨rfl, hb⟩
  replace A0 := cell_next (below1 hb) nA A0
  replace A1 := cell_next (below1 hb) nA A1
  replace nA := Nat.lt_of_lt_of_le nA (below1 hb).size
  replace B0 := cell_next (below1 hb) nB B0
  replace B1 := cell_next (below1 hb) nB B1
  replace nB := Nat.lt_of_lt_of_le nB (below1 hb).size
  replace x0 := cell_next (below1 hb) nx x0
  replace x1 := cell_next (below1 hb) nx x1
  replace nx := Nat.lt_of_lt_of_le nx (below1 hb).size
  replace y0 := cell_next (below1 hb) ny y0
  replace y1 := cell_next (below1 hb) ny y1
  replace ny := Nat.lt_of_lt_of_le ny (below1 hb).size
  have s0 := cell_next hb (b := W3.heap.size) (o := 0) (by simp <;> omega) (v := some (.int .i64 sn)) (by simp [go_sem])
  have s1 := cell_next hb (b := W3.heap.size) (o := 1) (by simp <;> omega) (v := some (.int .i64 sd)) (by simp [go_sem])
  have ns : W3.heap.size < W4.heap.size := by have := hb.size; simp at this; omega
  replace hB := hB.trans ((below1 hb).mono hB.size)
  clear hb
  generalize W3.heap.size = q4 at *
  go_wp2_with fail
  refine (L.out.c5 _).mono ?_
  rintro e W5 ⟨rfl, hb⟩
  replace A0 := cell_next (below1 hb) nA A0
  replace A1 := cell_next (below1 hb) nA A1
  replace nA := Nat.lt_of_lt_of_le nA (below1 hb).size
  replace B0 := cell_next (below1 hb) nB B0
  replace B1 := cell_next (below1 hb) nB B1
  replace nB := Nat.lt_of_lt_of_le nB (below1 hb).size
  replace x0 := cell_next (below1 hb) nx x0
  replace x1 := cell_next (below1 hb) nx x1
  replace nx := Nat.lt_of_lt_of_le nx (below1 hb).size
  replace y0 := cell_next (below1 hb) ny y0
  replace y1 := cell_next (below1 hb) ny y1
  replace ny := Nat.lt_of_lt_of_le ny (below1 hb).size
  replace s0 := cell_next (below1 hb) ns s0
  replace s1 := cell_next (below1 hb) ns s1
  replace ns := Nat.lt_of_lt_of_le ns (below1 hb).size
  have t0 := cell_next hb (b := W4.heap.size) (o := 0) (by simp <;> omega) (v := some (.int .i64 sn)) (by simp [go_sem])
  have t1 := cell_next hb (b := W4.heap.size) (o := 1) (by simp <;> omega) (v := some (.int .i64 sd)) (by simp [go_sem])
  have nt : W4.heap.size < W5.heap.size := by have := hb.size; simp at this; omega
  replace hB := hB.trans ((below1 hb).mono hB.size)
  clear hb
  generalize W4.heap.size = q5 at *
  go_wp2_with fail
  refine (L.out.c6 _).mono ?_
  rintro e W6 ⟨rfl, hb⟩
  replace A0 := cell_next (below1 hb) nA A0
  replace A1 := cell_next (below1 hb) nA A1
  replace nA := Nat.lt_of_lt_of_le nA (below1 hb).size
  replace B0 := cell_next (below1 hb) nB B0
  replace B1 := cell_next (below1 hb) nB B1
  replace nB := Nat.lt_of_lt_of_le nB (below1 hb).size
  replace x0 := cell_next (below1 hb) nx x0
  replace x1 := cell_next (below1 hb) nx x1
  replace nx := Nat.lt_of_lt_of_le nx (below1 hb).size
  replace y0 := cell_next (below1 hb) ny y0
  replace y1 := cell_next (below1 hb) ny y1
  replace ny := Nat.lt_of_lt_of_le ny (below1 hb).size
  replace s0 := cell_next (below1 hb) ns s0
  replace s1 := cell_next (below1 hb) ns s1
  replace ns := Nat.lt_of_lt_of_le ns (below1 hb).size
  replace t0 := cell_next (below1 hb) nt t0
  replace t1 := cell_next (below1 hb) nt t1
  replace nt := Nat.lt_of_lt_of_le nt (below1 hb).size
  have p0 := cell_next hb (b := W5.heap.size) (o := 0) (by simp <;> omega) (v := some (.int .i64 pn)) (by simp [go_sem])
  have p1 := cell_next hb (b := W5.heap.size) (o := 1) (by simp <;> omega) (v := some (.int .i64 pd)) (by simp [go_sem])
  have np : W5.heap.size < W6.heap.size := by have := hb.size; simp at this; omega
  replace hB := hB.trans ((below1 hb).mono hB.size)
  clear hb
  generalize W5.heap.size = q6 at *
  go_wp2_with fail
  refine (L.out.c7 _).mono ?_
  rintro e W7 ⟨rfl, hb⟩
  replace A0 := cell_next (below1 hb) nA A0
  replace A1 := cell_next (below1 hb) nA A1
  replace nA := Nat.lt_of_lt_of_le nA (below1 hb).size
  replace B0 := cell_next (below1 hb) nB B0
  replace B1 := cell_next (below1 hb) nB B1
  replace nB := Nat.lt_of_lt_of_le nB (below1 hb).size
  replace x0 := cell_next (below1 hb) nx x0
  replace x1 := cell_next (below1 hb) nx x1
  replace nx := Nat.lt_of_lt_of_le nx (below1 hb).size
  replace y0 := cell_next (below1 hb) ny y0
  replace y1 := cell_next (below1 hb) ny y1
  replace ny := Nat.lt_of_lt_of_le ny (below1 hb).size
  replace s0 := cell_next (below1 hb) ns s0
  replace s1 := cell_next (below1 hb) ns s1
  replace ns := Nat.lt_of_lt_of_le ns (below1 hb).size
  replace t0 := cell_next (below1 hb) nt t0
  replace t1 := cell_next (below1 hb) nt t1
  replace nt := Nat.lt_of_lt_of_le nt (below1 hb).size
  replace p0 := cell_next (below1 hb) np p0
  replace p1 := cell_next (below1 hb) np p1
  replace np := Nat.lt_of_lt_of_le np (below1 hb).size
  have q0 := cell_next hb (b := W6.heap.size) (o := 0) (by simp <;> omega) (v := some (.int .i64 pn)) (by simp [go_sem])
  have q1 := cell_next hb (b := W6.heap.size) (o := 1) (by simp <;> omega) (v := some (.int .i64 pd)) (by simp [go_sem])
  have nq : W6.heap.size < W7.heap.size := by have := hb.size; simp at this; omega
  replace hB := hB.trans ((below1 hb).mono hB.size)
  clear hb
  generalize W6.heap.size = q7 at *
  go_wp2_with fail
  refine (L.out.c8 _).mono ?_
  rintro e W8 ⟨rfl, hb⟩
  replace A0 := cell_next hb nA A0
  replace A1 := cell_next hb nA A1
  replace nA := Nat.lt_of_lt_of_le nA hb.size
  replace B0 := cell_next hb nB B0
  replace B1 := cell_next hb nB B1
  replace nB := Nat.lt_of_lt_of_le nB hb.size
  replace x0 := cell_next hb nx x0
  replace x1 := cell_next hb nx x1
  replace nx := Nat.lt_of_lt_of_le nx hb.size
  replace y0 := cell_next hb ny y0
  replace y1 := cell_next hb ny y1
  replace ny := Nat.lt_of_lt_of_le ny hb.size
  replace s0 := cell_next hb ns s0
  replace s1 := cell_next hb ns s1
  replace ns := Nat.lt_of_lt_of_le ns hb.size
  replace t0 := cell_next hb nt t0
  replace t1 := cell_next hb nt t1
  replace nt := Nat.lt_of_lt_of_le nt hb.size
  replace p0 := cell_next hb np p0
  replace p1 := cell_next hb np p1
  replace np := Nat.lt_of_lt_of_le np hb.size
  replace q0 := cell_next hb nq q0
  replace q1 := cell_next hb nq q1
  replace nq := Nat.lt_of_lt_of_le nq hb.size
  replace hB := hB.trans (hb.mono hB.size)
  clear hb
  go_wp2_with fail
  refine (L.out.c9 _).mono ?_
  rintro e W9 ⟨rfl, hb⟩
  replace A0 := cell_next hb nA A0
  replace A1 := cell_next hb nA A1
  replace nA := Nat.lt_of_lt_of_le nA hb.size
  replace B0 := cell_next hb nB B0
  replace B1 := cell_next hb nB B1
  replace nB := Nat.lt_of_lt_of_le nB hb.size
  replace x0 := cell_next hb nx x0
  replace x1 := cell_next hb nx x1
  replace nx := Nat.lt_of_lt_of_le nx hb.size
  replace y0 := cell_next hb ny y0
  replace y1 := cell_next hb ny y1
  replace ny := Nat.lt_of_lt_of_le ny hb.size
  replace s0 := cell_next hb ns s0
  replace s1 := cell_next hb ns s1
  replace ns := Nat.lt_of_lt_of_le ns hb.size
  replace t0 := cell_next hb nt t0
  replace t1 := cell_next hb nt t1
  replace nt := Nat.lt_of_lt_of_le nt hb.size
  replace p0 := cell_next hb np p0
  replace p1 := cell_next hb np p1
  replace np := Nat.lt_of_lt_of_le np hb.size
  replace q0 := cell_next hb nq q0
  replace q1 := cell_next hb nq q1
  replace nq := Nat.lt_of_lt_of_le nq hb.size
  replace hB := hB.trans (hb.mono hB.size)
  clear hb
  go_wp2_with fail
  refine (HK.out _).mono ?_
  rintro e W10 ⟨rfl, hb⟩
  replace A0 := cell_next (below1 hb) nA A0
  replace A1 := cell_next (below1 hb) nA A1
  replace nA := Nat.lt_of_lt_of_le nA (below1 hb).size
  replace B0 := cell_next (below1 hb) nB B0
  replace B1 := cell_next (below1 hb) nB B1
  replace nB := Nat.lt_of_lt_of_le nB (below1 hb).size
  replace x0 := cell_next (below1 hb) nx x0
  replace x1 := cell_next (below1 hb) nx x1
  replace nx := Nat.lt_of_lt_of_le nx (below1 hb).size
  replace y0 := cell_next (below1 hb) ny y0
  replace y1 := cell_next (below1 hb) ny y1
  replace ny := Nat.lt_of_lt_of_le ny (below1 hb).size
  replace s0 := cell_next (below1 hb) ns s0
  replace s1 := cell_next (below1 hb) ns s1
  replace ns := Nat.lt_of_lt_of_le ns (below1 hb).size
  replace t0 := cell_next (below1 hb) nt t0
  replace t1 := cell_next (below1 hb) nt t1
  replace nt := Nat.lt_of_lt_of_le nt (below1 hb).size
  replace p0 := cell_next (below1 hb) np p0
  replace p1 := cell_next (below1 hb) np p1
  replace np := Nat.lt_of_lt_of_le np (below1 hb).size
  replace q0 := cell_next (below1 hb) nq q0
  replace q1 := cell_next (below1 hb) nq q1
  replace nq := Nat.lt_of_lt_of_le nq (below1 hb).size
  have l0 := cell_next hb (b := W9.heap.size) (o := 0) (by simp <;> omega) (v := some (.int .i64 ln)) (by simp [go_sem])
  have l1 := cell_next hb (b := W9.heap.size) (o := 1) (by simp <;> omega) (v := some (.int .i64 ld)) (by simp [go_sem])
  have nl : W9.heap.size < W10.heap.size := by have := hb.size; simp at this; omega
  replace hB := hB.trans ((below1 hb).mono hB.size)
  clear hb
  generalize W9.heap.size = q10 at *
  go_wp2_with fail
  go_ret
  exact ⟨rfl, hB⟩

set_option maxRecDepth 100000 in
set_option maxHeartbeats 4000000 in
theorem frac_o2 (hk : Knows) (a0 a1 b0 b1 xn xd yn yd sn sd pn pd c d ln ld le n : Int) (w : World) (hA : FA a0 a1 b0 b1 xn xd 0 yn yd 0) (hB0 : FB xn xd yn yd sn sd 10 pn pd 0 c d ln ld le) (hN : FN a0 a1 b0 b1 xn xd yn yd c d) :
    Calls Try.prog 15 #[.agg #[.int .i16 a0, .int .i16 a1], .agg #[.int .i16 b0, .int .i16 b1], .int .i32 n] w fun e w' => e = .returned (.bool true) ∧ Below w.heap.size w w' := by
  have K := Lib.hid hA
  have L := Lib.hid hB0
  have HK := Lib.hid hk
  obtain ⟨g1, g2, g3, g4, g5, g6, g7, g8, g9, g10, g11, g12, g13, g14, g15, g16, g17, g18, ht, hc⟩ := hN
  have m1 : IntKind.i64.wrap (xn * a1) = xn * a1 := IntWalk.i64_in _ (by have : (xn * a1).natAbs ≤ 32768 * 32768 := (by rw [Int.natAbs_mul]; exact Nat.mul_le_mul (by omega) (by omega)); omega)
  have m2 : IntKind.i64.wrap (xd * a0) = xd * a0 := IntWalk.i64_in _ (by have : (xd * a0).natAbs ≤ 32768 * 32768 := (by rw [Int.natAbs_mul]; exact Nat.mul_le_mul (by omega) (by omega)); omega)
  have t1 : (xn * a1 != xd * a0) = false := by simp [ht]
  have t2 : (c == -d) = true := by simp [hc]
  have t3 : (c != -d) = false := by simp [hc]
  clear hA hB0 hk ht hc
  go_enter Try.func15, Try.ntmps15
  go_wp2_with fail
  refine (K.out.c1 _).mono ?_
  rintro e W1 ⟨rfl, hb⟩
  have A0 := cell_next hb (b := w.heap.size) (o := 0) (by simp <;> omega) (v := some (.int .i16 a0)) (by simp [go_sem])
  have A1 := cell_next hb (b := w.heap.size) (o := 1) (by simp <;> omega) (v := some (.int .i16 a1)) (by simp [go_sem])
  have nA : w.heap.size < W1.heap.size := by have := hb.size; simp at this; omega
  have B0 := cell_next hb (b := w.heap.size + 1) (o := 0) (by simp <;> omega) (v := some (.int .i16 b0)) (by simp [go_sem])
  have B1 := cell_next hb (b := w.heap.size + 1) (o := 1) (by simp <;> omega) (v := some (.int .i16 b1)) (by simp [go_sem])
  have nB : w.heap.size + 1 < W1.heap.size := by have := hb.size; simp at this; omega
  have hB := (below2 hb)
  clear hb
  go_wp2_with fail
  refine (K.out.c2 _).mono ?_
  rintro e W2 ⟨rfl, hb⟩
  replace A0 := cell_next (below1 hb) nA A0
  replace A1 := cell_next (below1 hb) nA A1
  replace nA := Nat.lt_of_lt_of_le nA (below1 hb).size
  replace B0 := cell_next (below1 hb) nB B0
  replace B1 := cell_next (below1 hb) nB B1
  replace nB := Nat.lt_of_lt_of_le nB (below1 hb).size
  have x0 := cell_next hb (b := W1.heap.size) (o := 0) (by simp <;> omega) (v := some (.int .i64 xn)) (by simp [go_sem])
  have x1 := cell_next hb (b := W1.heap.size) (o := 1) (by simp <;> omega) (v := some (.int .i64 xd)) (by simp [go_sem])
  have nx : W1.heap.size < W2.heap.size := by have := hb.size; simp at this; omega
  replace hB := hB.trans ((below1 hb).mono hB.size)
  clear hb
  generalize W1.heap.size = q2 at *
  go_wp2_with fail
  refine (L.out.c3 _).mono ?_
  rintro e W3 ⟨rfl, hb⟩
  replace A0 := cell_next (below1 hb) nA A0
  replace A1 := cell_next (below1 hb) nA A1
  replace nA := Nat.lt_of_lt_of_le nA (below1 hb).size
  replace B0 := cell_next (below1 hb) nB B0
  replace B1 := cell_next (below1 hb) nB B1
  replace nB := Nat.lt_of_lt_of_le nB (below1 hb).size
  replace x0 := cell_next (below1 hb) nx x0
  replace x1 := cell_next (below1 hb) nx x1
  replace nx := Nat.lt_of_lt_of_le nx (below1 hb).size
  have y0 := cell_next hb (b := W2.heap.size) (o := 0) (by simp <;> omega) (v := some (.int .i64 yn)) (by simp [go_sem])
  have y1 := cell_next hb (b := W2.heap.size) (o := 1) (by simp <;> omega) (v := some (.int .i64 yd)) (by simp [go_sem])
  have ny : W2.heap.size < W3.heap.size := by have := hb.size; simp at this; omega
  replace hB := hB.trans ((below1 hb).mono hB.size)
  clear hb
  generalize W2.heap.size = q3 at *
  go_wp2_with fail
  refine (L.out.c4 _).mono ?_
  rintro e W4 ⟨rfl, hb⟩
  replace A0 := cell_next (below1 hb) nA A0
  replace A1 := cell_next (below1 hb) nA A1
  replace nA := Nat.lt_of_lt_of_le nA (below1 hb).size
  replace B0 := cell_next (below1 hb) nB B0
  replace B1 := cell_next (below1 hb) nB B1
  replace nB := Nat.lt_of_lt_of_le nB (below1 hb).size
  replace x0 := cell_next (below1 hb) nx x0
  replace x1 := cell_next (below1 hb) nx x1
  replace nx := Nat.lt_of_lt_of_le nx (below1 hb).size
  replace y0 := cell_next (below1 hb) ny y0
  replace y1 := cell_next (below1 hb) ny y1
  replace ny := Nat.lt_of_lt_of_le ny (below1 hb).size
  have s0 := cell_next hb (b := W3.heap.size) (o := 0) (by simp <;> omega) (v := some (.int .i64 sn)) (by simp [go_sem])
  have s1 := cell_next hb (b := W3.heap.size) (o := 1) (by simp <;> omega) (v := some (.int .i64 sd)) (by simp [go_sem])
  have ns : W3.heap.size < W4.heap.size := by have := hb.size; simp at this; omega
  replace hB := hB.trans ((below1 hb).mono hB.size)
  clear hb
  generalize W3.heap.size = q4 at *
  go_wp2_with fail
  refine (L.out.c5 _).mono ?_
  rintro e W5 ⟨rfl, hb⟩
  replace A0 := cell_next (below1 hb) nA A0
  replace A1 := cell_next (below1 hb) nA A1
  replace nA := Nat.lt_of_lt_of_le nA (below1 hb).size
  replace B0 := cell_next (below1 hb) nB B0
  replace B1 := cell_next (below1 hb) nB B1
  replace nB := Nat.lt_of_lt_of_le nB (below1 hb).size
  replace x0 := cell_next (below1 hb) nx x0
  replace x1 := cell_next (below1 hb) nx x1
  replace nx := Nat.lt_of_lt_of_le nx (below1 hb).size
  replace y0 := cell_next (below1 hb) ny y0
  replace y1 := cell_next (below1 hb) ny y1
  replace ny := Nat.lt_of_lt_of_le ny (below1 hb).size
  replace s0 := cell_next (below1 hb) ns s0
  replace s1 := cell_next (below1 hb) ns s1
  replace ns := Nat.lt_of_lt_of_le ns (below1 hb).size
  have t0 := cell_next hb (b := W4.heap.size) (o := 0) (by simp <;> omega) (v := some (.int .i64 sn)) (by simp [go_sem])
  have t1 := cell_next hb (b := W4.heap.size) (o := 1) (by simp <;> omega) (v := some (.int .i64 sd)) (by simp [go_sem])
  have nt : W4.heap.size < W5.heap.size := by have := hb.size; simp at this; omega
  replace hB := hB.trans ((below1 hb).mono hB.size)
  clear hb
  generalize W4.heap.size = q5 at *
  go_wp2_with fail
  refine (L.out.c6 _).mono ?_
  rintro e W6 ⟨rfl, hb⟩
  replace A0 := cell_next (below1 hb) nA A0
  replace A1 := cell_next (below1 hb) nA A1
  replace nA := Nat.lt_of_lt_of_le nA (below1 hb).size
  replace B0 := cell_next (below1 hb) nB B0
  replace B1 := cell_next (below1 hb) nB B1
  replace nB := Nat.lt_of_lt_of_le nB (below1 hb).size
  replace x0 := cell_next (below1 hb) nx x0
  replace x1 := cell_next (below1 hb) nx x1
  replace nx := Nat.lt_of_lt_of_le nx (below1 hb).size
  replace y0 := cell_next (below1 hb) ny y0
  replace y1 := cell_next (below1 hb) ny y1
  replace ny := Nat.lt_of_lt_of_le ny (below1 hb).size
  replace s0 := cell_next (below1 hb) ns s0
  replace s1 := cell_next (below1 hb) ns s1
  replace ns := Nat.lt_of_lt_of_le ns (below1 hb).size
  replace t0 := cell_next (below1 hb) nt t0
  replace t1 := cell_next (below1 hb) nt t1
  replace nt := Nat.lt_of_lt_of_le nt (below1 hb).size
  have p0 := cell_next hb (b := W5.heap.size) (o := 0) (by simp <;> omega) (v := some (.int .i64 pn)) (by simp [go_sem])
  have p1 := cell_next hb (b := W5.heap.size) (o := 1) (by simp <;> omega) (v := some (.int .i64 pd)) (by simp [go_sem])
  have np : W5.heap.size < W6.heap.size := by have := hb.size; simp at this; omega
  replace hB := hB.trans ((below1 hb).mono hB.size)
  clear hb
  generalize W5.heap.size = q6 at *
  go_wp2_with fail
  refine (L.out.c7 _).mono ?_
  rintro e W7 ⟨rfl, hb⟩
  replace A0 := cell_next (below1 hb) nA A0
  replace A1 := cell_next (below1 hb) nA A1
  replace nA := Nat.lt_of_lt_of_le nA (below1 hb).size
  replace B0 := cell_next (below1 hb) nB B0
  replace B1 := cell_next (below1 hb) nB B1
  replace nB := Nat.lt_of_lt_of_le nB (below1 hb).size
  replace x0 := cell_next (below1 hb) nx x0
  replace x1 := cell_next (below1 hb) nx x1
  replace nx := Nat.lt_of_lt_of_le nx (below1 hb).size
  replace y0 := cell_next (below1 hb) ny y0
  replace y1 := cell_next (below1 hb) ny y1
  replace ny := Nat.lt_of_lt_of_le ny (below1 hb).size
  replace s0 := cell_next (below1 hb) ns s0
  replace s1 := cell_next (below1 hb) ns s1
  replace ns := Nat.lt_of_lt_of_le ns (below1 hb).size
  replace t0 := cell_next (below1 hb) nt t0
  replace t1 := cell_next (below1 hb) nt t1
  replace nt := Nat.lt_of_lt_of_le nt (below1 hb).size
  replace p0 := cell_next (below1 hb) np p0
  replace p1 := cell_next (below1 hb) np p1
  replace np := Nat.lt_of_lt_of_le np (below1 hb).size
  have q0 := cell_next hb (b := W6.heap.size) (o := 0) (by simp <;> omega) (v := some (.int .i64 pn)) (by simp [go_sem])
  have q1 := cell_next hb (b := W6.heap.size) (o := 1) (by simp <;> omega) (v := some (.int .i64 pd)) (by simp [go_sem])
  have nq : W6.heap.size < W7.heap.size := by have := hb.size; simp at this; omega
  replace hB := hB.trans ((below1 hb).mono hB.size)
  clear hb
  generalize W6.heap.size = q7 at *
  go_wp2_with fail
  refine (L.out.c8 _).mono ?_
  rintro e W8 ⟨rfl, hb⟩
  replace A0 := cell_next hb nA A0
  replace A1 := cell_next hb nA A1
  replace nA := Nat.lt_of_lt_of_le nA hb.size
  replace B0 := cell_next hb nB B0
  replace B1 := cell_next hb nB B1
  replace nB := Nat.lt_of_lt_of_le nB hb.size
  replace x0 := cell_next hb nx x0
  replace x1 := cell_next hb nx x1
  replace nx := Nat.lt_of_lt_of_le nx hb.size
  replace y0 := cell_next hb ny y0
  replace y1 := cell_next hb ny y1
  replace ny := Nat.lt_of_lt_of_le ny hb.size
  replace s0 := cell_next hb ns s0
  replace s1 := cell_next hb ns s1
  replace ns := Nat.lt_of_lt_of_le ns hb.size
  replace t0 := cell_next hb nt t0
  replace t1 := cell_next hb nt t1
  replace nt := Nat.lt_of_lt_of_le nt hb.size
  replace p0 := cell_next hb np p0
  replace p1 := cell_next hb np p1
  replace np := Nat.lt_of_lt_of_le np hb.size
  replace q0 := cell_next hb nq q0
  replace q1 := cell_next hb nq q1
  replace nq := Nat.lt_of_lt_of_le nq hb.size
  replace hB := hB.trans (hb.mono hB.size)
  clear hb
  go_wp2_with fail
  refine (L.out.c9 _).mono ?_
  rintro e W9 ⟨rfl, hb⟩
  replace A0 := cell_next hb nA A0
  replace A1 := cell_next hb nA A1
  replace nA := Nat.lt_of_lt_of_le nA hb.size
  replace B0 := cell_next hb nB B0
  replace B1 := cell_next hb nB B1
  replace nB := Nat.lt_of_lt_of_le nB hb.size
  replace x0 := cell_next hb nx x0
  replace x1 := cell_next hb nx x1
  replace nx := Nat.lt_of_lt_of_le nx hb.size
  replace y0 := cell_next hb ny y0
  replace y1 := cell_next hb ny y1
  replace ny := Nat.lt_of_lt_of_le ny hb.size
  replace s0 := cell_next hb ns s0
  replace s1 := cell_next hb ns s1
  replace ns := Nat.lt_of_lt_of_le ns hb.size
  replace t0 := cell_next hb nt t0
  replace t1 := cell_next hb nt t1
  replace nt := Nat.lt_of_lt_of_le nt hb.size
  replace p0 := cell_next hb np p0
  replace p1 := cell_next hb np p1
  replace np := Nat.lt_of_lt_of_le np hb.size
  replace q0 := cell_next hb nq q0
  replace q1 := cell_next hb nq q1
  replace nq := Nat.lt_of_lt_of_le nq hb.size
  replace hB := hB.trans (hb.mono hB.size)
  clear hb
  go_wp2_with fail
  refine (HK.out _).mono ?_
  rintro e W10 ⟨rfl, hb⟩
  replace A0 := cell_next (below1 hb) nA A0
  replace A1 := cell_next (below1 hb) nA A1
  replace nA := Nat.lt_of_lt_of_le nA (below1 hb).size
  replace B0 := cell_next (below1 hb) nB B0
  replace B1 := cell_next (below1 hb) nB B1
  replace nB := Nat.lt_of_lt_of_le nB (below1 hb).size
  replace x0 := cell_next (below1 hb) nx x0
  replace x1 := cell_next (below1 hb) nx x1
  replace nx := Nat.lt_of_lt_of_le nx (below1 hb).size
  replace y0 := cell_next (below1 hb) ny y0
  replace y1 := cell_next (below1 hb) ny y1
  replace ny := Nat.lt_of_lt_of_le ny (below1 hb).size
  replace s0 := cell_next (below1 hb) ns s0
  replace s1 := cell_next (below1 hb) ns s1
  replace ns := Nat.lt_of_lt_of_le ns (below1 hb).size
  replace t0 := cell_next (below1 hb) nt t0
  replace t1 := cell_next (below1 hb) nt t1
  replace nt := Nat.lt_of_lt_of_le nt (below1 hb).size
  replace p0 := cell_next (below1 hb) np p0
  replace p1 := cell_next (below1 hb) np p1
  replace np := Nat.lt_of_lt_of_le np (below1 hb).size
  replace q0 := cell_next (below1 hb) nq q0
  replace q1 := cell_next (below1 hb) nq q1
  replace nq := Nat.lt_of_lt_of_le nq (below1 hb).size
  have l0 := cell_next hb (b := W9.heap.size) (o := 0) (by simp <;> omega) (v := some (.int .i64 ln)) (by simp [go_sem])
  have l1 := cell_next hb (b := W9.heap.size) (o := 1) (by simp <;> omega) (v := some (.int .i64 ld)) (by simp [go_sem])
  have nl : W9.heap.size < W10.heap.size := by have := hb.size; simp at this; omega
  replace hB := hB.trans ((below1 hb).mono hB.size)
  clear hb
  generalize W9.heap.size = q10 at *
  go_wp2_with fail
  go_ret
  exact ⟨rfl, hB⟩

set_option maxRecDepth 100000 in
set_option maxHeartbeats 4000000 in
theorem frac_ok (hk : Knows) (a0 a1 b0 b1 xn xd yn yd sn sd pn pd c d rl rh n : Int) (w : World) (hA : FA a0 a1 b0 b1 xn xd 0 yn yd 0) (hB0 : FB xn xd yn yd sn sd 0 pn pd 0 c d xn xd 0) (hN : FN a0 a1 b0 b1 xn xd yn yd c d) (hn : -2147483648 ≤ n ∧ n ≤ 2147483647)
    (hO : ∀ w : World, Calls Try.prog 37 #[.int .i64 n, .agg #[.int .i64 xn, .int .i64 xd]] w fun e w' => e = .returned (.tuple #[.agg #[.int .i64 rl, .int .i64 rh], .int .i64 0]) ∧ Below w.heap.size w w')
    (hR : rl * xd ≤ n * xn ∧ n * xn ≤ rh * xd ∧ rh - rl ≤ 1 ∧ rl ≤ rh ∧ (rh == rl) = ((n * xn).tmod xd == 0) ∧ -100000000000000 ≤ rl ∧ rh ≤ 100000000000000 ∧ -100000000000000 ≤ rl * xd ∧ rh * xd ≤ 100000000000000 ∧ -100000000000000 ≤ n * xn ∧ n * xn ≤ 100000000000000) :
    Calls Try.prog 15 #[.agg #[.int .i16 a0, .int .i16 a1], .agg #[.int .i16 b0, .int .i16 b1], .int .i32 n] w fun e w' => e = .returned (.bool true) ∧ Below w.heap.size w w' := by
  have K := Lib.hid hA
  have L := Lib.hid hB0
  have HK := Lib.hid hk
  obtain ⟨g1, g2, g3, g4, g5, g6, g7, g8, g9, g10, g11, g12, g13, g14, g15, g16, g17, g18, ht, hc⟩ := hN
  have m1 : IntKind.i64.wrap (xn * a1) = xn * a1 := IntWalk.i64_in _ (by have : (xn * a1).natAbs ≤ 32768 * 32768 := (by rw [Int.natAbs_mul]; exact Nat.mul_le_mul (by omega) (by omega)); omega)
  have m2 : IntKind.i64.wrap (xd * a0) = xd * a0 := IntWalk.i64_in _ (by have : (xd * a0).natAbs ≤ 32768 * 32768 := (by rw [Int.natAbs_mul]; exact Nat.mul_le_mul (by omega) (by omega)); omega)
  have t1 : (xn * a1 != xd * a0) = false := by simp [ht]
  have t2 : (c == -d) = true := by simp [hc]
  have t3 : (c != -d) = false := by simp [hc]
  clear hA hB0 hk ht hc
  have M := Lib.hid hO
  clear hO
  obtain ⟨o1, o2, o3, o4, o5, o6, o7, o8, o9, o10, o11⟩ := hR
  have u1 : IntKind.i64.wrap (rl * xd) = rl * xd := IntWalk.i64_in _ (by omega)
  have u2 : IntKind.i64.wrap (rh * xd) = rh * xd := IntWalk.i64_in _ (by omega)
  have u3 : IntKind.i64.wrap (n * xn) = n * xn := IntWalk.i64_in _ (by omega)
  have u4 : IntKind.i64.wrap ((n * xn).tmod xd) = (n * xn).tmod xd := wrap_tmod _ _ ⟨by omega, by omega⟩
  obtain ⟨n1, n2⟩ := hn
  have u0 : IntKind.i64.wrap n = n := IntWalk.i64_in _ (by omega)
  have u5 : IntKind.i64.wrap (rh - rl) = rh - rl := IntWalk.i64_in _ (by omega)
  have u6 : (xd = 0) = False := by simp; omega
  have z1 : ((rh == rl) == ((n * xn).tmod xd == 0)) = true := by rw [o5]; simp
  have k1 : decide (rl * xd ≤ n * xn) = true := by simpa using o1
  have k2 : decide (n * xn ≤ rh * xd) = true := by simpa using o2
  have k3 : decide (rh - rl ≤ 1) = true := by simpa using o3
  have k4 : decide (rl ≤ rh) = true := by simpa using o4
  clear o1 o2 o3 o4 o5
  go_enter Try.func15, Try.ntmps15
  go_wp2_with fail
  refine (K.out.c1 _).mono ?_
  rintro e W1 ⟨rfl, hb⟩
  have A0 := cell_next hb (b := w.heap.size) (o := 0) (by simp <;> omega) (v := some (.int .i16 a0)) (by simp [go_sem])
  have A1 := cell_next hb (b := w.heap.size) (o := 1) (by simp <;> omega) (v := some (.int .i16 a1)) (by simp [go_sem])
  have nA : w.heap.size < W1.heap.size := by have := hb.size; simp at this; omega
  have B0 := cell_next hb (b := w.heap.size + 1) (o := 0) (by simp <;> omega) (v := some (.int .i16 b0)) (by simp [go_sem])
  have B1 := cell_next hb (b := w.heap.size + 1) (o := 1) (by simp <;> omega) (v := some (.int .i16 b1)) (by simp [go_sem])
  have nB : w.heap.size + 1 < W1.heap.size := by have := hb.size; simp at this; omega
  have hB := (below2 hb)
  clear hb
  go_wp2_with fail
  refine (K.out.c2 _).mono ?_
  rintro e W2 ⟨rfl, hb⟩
  replace A0 := cell_next (below1 hb) nA A0
  replace A1 := cell_next (below1 hb) nA A1
  replace nA := Nat.lt_of_lt_of_le nA (below1 hb).size
  replace B0 := cell_next (below1 hb) nB B0
  replace B1 := cell_next (below1 hb) nB B1
  replace nB := Nat.lt_of_lt_of_le nB (below1 hb).size
  have x0 := cell_next hb (b := W1.heap.size) (o := 0) (by simp <;> omega) (v := some (.int .i64 xn)) (by simp [go_sem])
  have x1 := cell_next hb (b := W1.heap.size) (o := 1) (by simp <;> omega) (v := some (.int .i64 xd)) (by simp [go_sem])
  have nx : W1.heap.size < W2.heap.size := by have := hb.size; simp at this; omega
  replace hB := hB.trans ((below1 hb).mono hB.size)
  clear hb
  generalize W1.heap.size = q2 at *
  go_wp2_with fail
  refine (L.out.c3 _).mono ?_
  rintro e W3 ⟨rfl, hb⟩
  replace A0 := cell_next (below1 hb) nA A0
  replace A1 := cell_next (below1 hb) nA A1
  replace nA := Nat.lt_of_lt_of_le nA (below1 hb).size
  replace B0 := cell_next (below1 hb) nB B0
  replace B1 := cell_next (below1 hb) nB B1
  replace nB := Nat.lt_of_lt_of_le nB (below1 hb).size
  replace x0 := cell_next (below1 hb) nx x0
  replace x1 := cell_next (below1 hb) nx x1
  replace nx := Nat.lt_of_lt_of_le nx (below1 hb).size
  have y0 := cell_next hb (b := W2.heap.size) (o := 0) (by simp <;> omega) (v := some (.int .i64 yn)) (by simp [go_sem])
  have y1 := cell_next hb (b := W2.heap.size) (o := 1) (by simp <;> omega) (v := some (.int .i64 yd)) (by simp [go_sem])
  have ny : W2.heap.size < W3.heap.size := by have := hb.size; simp at this; omega
  replace hB := hB.trans ((below1 hb).mono hB.size)
  clear hb
  generalize W2.heap.size = q3 at *
  go_wp2_with fail
  refine (L.out.c4 _).mono ?_
  rintro e W4 ⟨rfl, hb⟩
  replace A0 := cell_next (below1 hb) nA A0
  replace A1 := cell_next (below1 hb) nA A1
  replace nA := Nat.lt_of_lt_of_le nA (below1 hb).size
  replace B0 := cell_next (below1 hb) nB B0
  replace B1 := cell_next (below1 hb) nB B1
  replace nB := Nat.lt_of_lt_of_le nB (below1 hb).size
  replace x0 := cell_next (below1 hb) nx x0
  replace x1 := cell_next (below1 hb) nx x1
  replace nx := Nat.lt_of_lt_of_le nx (below1 hb).size
  replace y0 := cell_next (below1 hb) ny y0
  replace y1 := cell_next (below1 hb) ny y1
  replace ny := Nat.lt_of_lt_of_le ny (below1 hb).size
  have s0 := cell_next hb (b := W3.heap.size) (o := 0) (by simp <;> omega) (v := some (.int .i64 sn)) (by simp [go_sem])
  have s1 := cell_next hb (b := W3.heap.size) (o := 1) (by simp <;> omega) (v := some (.int .i64 sd)) (by simp [go_sem])
  have ns : W3.heap.size < W4.heap.size := by have := hb.size; simp at this; omega
  replace hB := hB.trans ((below1 hb).mono hB.size)
  clear hb
  generalize W3.heap.size = q4 at *
  go_wp2_with fail
  refine (L.out.c5 _).mono ?_
  rintro e W5 ⟨rfl, hb⟩
  replace A0 := cell_next (below1 hb) nA A0
  replace A1 := cell_next (below1 hb) nA A1
  replace nA := Nat.lt_of_lt_of_le nA (below1 hb).size
  replace B0 := cell_next (below1 hb) nB B0
  replace B1 := cell_next (below1 hb) nB B1
  replace nB := Nat.lt_of_lt_of_le nB (below1 hb).size
  replace x0 := cell_next (below1 hb) nx x0
  replace x1 := cell_next (below1 hb) nx x1
  replace nx := Nat.lt_of_lt_of_le nx (below1 hb).size
  replace y0 := cell_next (below1 hb) ny y0
  replace y1 := cell_next (below1 hb) ny y1
  replace ny := Nat.lt_of_lt_of_le ny (below1 hb).size
  replace s0 := cell_next (below1 hb) ns s0
  replace s1 := cell_next (below1 hb) ns s1
  replace ns := Nat.lt_of_lt_of_le ns (below1 hb).size
  have t0 := cell_next hb (b := W4.heap.size) (o := 0) (by simp <;> omega) (v := some (.int .i64 sn)) (by simp [go_sem])
  have t1 := cell_next hb (b := W4.heap.size) (o := 1) (by simp <;> omega) (v := some (.int .i64 sd)) (by simp [go_sem])
  have nt : W4.heap.size < W5.heap.size := by have := hb.size; simp at this; omega
  replace hB := hB.trans ((below1 hb).mono hB.size)
  clear hb
  generalize W4.heap.size = q5 at *
  go_wp2_with fail
  refine (L.out.c6 _).mono ?_
  rintro e W6 ⟨rfl, hb⟩
  replace A0 := cell_next (below1 hb) nA A0
  replace A1 := cell_next (below1 hb) nA A1
  replace nA := Nat.lt_of_lt_of_le nA (below1 hb).size
  replace B0 := cell_next (below1 hb) nB B0
  replace B1 := cell_next (below1 hb) nB B1
  replace nB := Nat.lt_of_lt_of_le nB (below1 hb).size
  replace x0 := cell_next (below1 hb) nx x0
  replace x1 := cell_next (below1 hb) nx x1
  replace nx := Nat.lt_of_lt_of_le nx (below1 hb).size
  replace y0 := cell_next (below1 hb) ny y0
  replace y1 := cell_next (below1 hb) ny y1
  replace ny := Nat.lt_of_lt_of_le ny (below1 hb).size
  replace s0 := cell_next (below1 hb) ns s0
  replace s1 := cell_next (below1 hb) ns s1
  replace ns := Nat.lt_of_lt_of_le ns (below1 hb).size
  replace t0 := cell_next (below1 hb) nt t0
  replace t1 := cell_next (below1 hb) nt t1
  replace nt := Nat.lt_of_lt_of_le nt (below1 hb).size
  have p0 := cell_next hb (b := W5.heap.size) (o := 0) (by simp <;> omega) (v := some (.int .i64 pn)) (by simp [go_sem])
  have p1 := cell_next hb (b := W5.heap.size) (o := 1) (by simp <;> omega) (v := some (.int .i64 pd)) (by simp [go_sem])
  have np : W5.heap.size < W6.heap.size := by have := hb.size; simp at this; omega
  replace hB := hB.trans ((below1 hb).mono hB.size)
  clear hb
  generalize W5.heap.size = q6 at *
  go_wp2_with fail
  refine (L.out.c7 _).mono ?_
  rintro e W7 ⟨rfl, hb⟩
  replace A0 := cell_next (below1 hb) nA A0
  replace A1 := cell_next (below1 hb) nA A1
  replace nA := Nat.lt_of_lt_of_le nA (below1 hb).size
  replace B0 := cell_next (below1 hb) nB B0
  replace B1 := cell_next (below1 hb) nB B1
  replace nB := Nat.lt_of_lt_of_le nB (below1 hb).size
  replace x0 := cell_next (below1 hb) nx x0
  replace x1 := cell_next (below1 hb) nx x1
  replace nx := Nat.lt_of_lt_of_le nx (below1 hb).size
  replace y0 := cell_next (below1 hb) ny y0
  replace y1 := cell_next (below1 hb) ny y1
  replace ny := Nat.lt_of_lt_of_le ny (below1 hb).size
  replace s0 := cell_next (below1 hb) ns s0
  replace s1 := cell_next (below1 hb) ns s1
  replace ns := Nat.lt_of_lt_of_le ns (below1 hb).size
  replace t0 := cell_next (below1 hb) nt t0
  replace t1 := cell_next (below1 hb) nt t1
  replace nt := Nat.lt_of_lt_of_le nt (below1 hb).size
  replace p0 := cell_next (below1 hb) np p0
  replace p1 := cell_next (below1 hb) np p1
  replace np := Nat.lt_of_lt_of_le np (below1 hb).size
  have q0 := cell_next hb (b := W6.heap.size) (o := 0) (by simp <;> omega) (v := some (.int .i64 pn)) (by simp [go_sem])
  have q1 := cell_next hb (b := W6.heap.size) (o := 1) (by simp <;> omega) (v := some (.int .i64 pd)) (by simp [go_sem])
  have nq : W6.heap.size < W7.heap.size := by have := hb.size; simp at this; omega
  replace hB := hB.trans ((below1 hb).mono hB.size)
  clear hb
  generalize W6.heap.size = q7 at *
  go_wp2_with fail
  refine (L.out.c8 _).mono ?_
  rintro e W8 ⟨rfl, hb⟩
  replace A0 := cell_next hb nA A0
  replace A1 := cell_next hb nA A1
  replace nA := Nat.lt_of_lt_of_le nA hb.size
  replace B0 := cell_next hb nB B0
  replace B1 := cell_next hb nB B1
  replace nB := Nat.lt_of_lt_of_le nB hb.size
  replace x0 := cell_next hb nx x0
  replace x1 := cell_next hb nx x1
  replace nx := Nat.lt_of_lt_of_le nx hb.size
  replace y0 := cell_next hb ny y0
  replace y1 := cell_next hb ny y1
  replace ny := Nat.lt_of_lt_of_le ny hb.size
  replace s0 := cell_next hb ns s0
  replace s1 := cell_next hb ns s1
  replace ns := Nat.lt_of_lt_of_le ns hb.size
  replace t0 := cell_next hb nt t0
  replace t1 := cell_next hb nt t1
  replace nt := Nat.lt_of_lt_of_le nt hb.size
  replace p0 := cell_next hb np p0
  replace p1 := cell_next hb np p1
  replace np := Nat.lt_of_lt_of_le np hb.size
  replace q0 := cell_next hb nq q0
  replace q1 := cell_next hb nq q1
  replace nq := Nat.lt_of_lt_of_le nq hb.size
  replace hB := hB.trans (hb.mono hB.size)
  clear hb
  go_wp2_with fail
  refine (L.out.c9 _).mono ?_
  rintro e W9 ⟨rfl, hb⟩
  replace A0 := cell_next hb nA A0
  replace A1 := cell_next hb nA A1
  replace nA := Nat.lt_of_lt_of_le nA hb.size
  replace B0 := cell_next hb nB B0
  replace B1 := cell_next hb nB B1
  replace nB := Nat.lt_of_lt_of_le nB hb.size
  replace x0 := cell_next hb nx x0
  replace x1 := cell_next hb nx x1
  replace nx := Nat.lt_of_lt_of_le nx hb.size
  replace y0 := cell_next hb ny y0
  replace y1 := cell_next hb ny y1
  replace ny := Nat.lt_of_lt_of_le ny hb.size
  replace s0 := cell_next hb ns s0
  replace s1 := cell_next hb ns s1
  replace ns := Nat.lt_of_lt_of_le ns hb.size
  replace t0 := cell_next hb nt t0
  replace t1 := cell_next hb nt t1
  replace nt := Nat.lt_of_lt_of_le nt hb.size
  replace p0 := cell_next hb np p0
  replace p1 := cell_next hb np p1
  replace np := Nat.lt_of_lt_of_le np hb.size
  replace q0 := cell_next hb nq q0
  replace q1 := cell_next hb nq q1
  replace nq := Nat.lt_of_lt_of_le nq hb.size
  replace hB := hB.trans (hb.mono hB.size)
  clear hb
  go_wp2_with fail
  refine (M.out _).mono ?_
  rintro e W10 ⟨rfl, hb⟩
  replace A0 := cell_next (below1 hb) nA A0
  replace A1 := cell_next (below1 hb) nA A1
  replace nA := Nat.lt_of_lt_of_le nA (below1 hb).size
  replace B0 := cell_next (below1 hb) nB B0
  replace B1 := cell_next (below1 hb) nB B1
  replace nB := Nat.lt_of_lt_of_le nB (below1 hb).size
  replace x0 := cell_next (below1 hb) nx x0
  replace x1 := cell_next (below1 hb) nx x1
  replace nx := Nat.lt_of_lt_of_le nx (below1 hb).size
  replace y0 := cell_next (below1 hb) ny y0
  replace y1 := cell_next (below1 hb) ny y1
  replace ny := Nat.lt_of_lt_of_le ny (below1 hb).size
  replace s0 := cell_next (below1 hb) ns s0
  replace s1 := cell_next (below1 hb) ns s1
  replace ns := Nat.lt_of_lt_of_le ns (below1 hb).size
  replace t0 := cell_next (below1 hb) nt t0
  replace t1 := cell_next (below1 hb) nt t1
  replace nt := Nat.lt_of_lt_of_le nt (below1 hb).size
  replace p0 := cell_next (below1 hb) np p0
  replace p1 := cell_next (below1 hb) np p1
  replace np := Nat.lt_of_lt_of_le np (below1 hb).size
  replace q0 := cell_next (below1 hb) nq q0
  replace q1 := cell_next (below1 hb) nq q1
  replace nq := Nat.lt_of_lt_of_le nq (below1 hb).size
  have l0 := cell_next hb (b := W9.heap.size) (o := 0) (by simp <;> omega) (v := some (.int .i64 xn)) (by simp [go_sem])
  have l1 := cell_next hb (b := W9.heap.size) (o := 1) (by simp <;> omega) (v := some (.int .i64 xd)) (by simp [go_sem])
  have nl : W9.heap.size < W10.heap.size := by have := hb.size; simp at this; omega
  replace hB := hB.trans ((below1 hb).mono hB.size)
  clear hb
  generalize W9.heap.size = q10 at *
  go_wp2_with fail
  refine region_tail 61 (by kernel_rfl) (by kernel_rfl) (fun W11 hb => ?_)
  replace A0 := cell_next (below1 hb) nA A0
  replace A1 := cell_next (below1 hb) nA A1
  replace nA := Nat.lt_of_lt_of_le nA (below1 hb).size
  replace B0 := cell_next (below1 hb) nB B0
  replace B1 := cell_next (below1 hb) nB B1
  replace nB := Nat.lt_of_lt_of_le nB (below1 hb).size
  replace x0 := cell_next (below1 hb) nx x0
  replace x1 := cell_next (below1 hb) nx x1
  replace nx := Nat.lt_of_lt_of_le nx (below1 hb).size
  replace y0 := cell_next (below1 hb) ny y0
  replace y1 := cell_next (below1 hb) ny y1
  replace ny := Nat.lt_of_lt_of_le ny (below1 hb).size
  replace s0 := cell_next (below1 hb) ns s0
  replace s1 := cell_next (below1 hb) ns s1
  replace ns := Nat.lt_of_lt_of_le ns (below1 hb).size
  replace t0 := cell_next (below1 hb) nt t0
  replace t1 := cell_next (below1 hb) nt t1
  replace nt := Nat.lt_of_lt_of_le nt (below1 hb).size
  replace p0 := cell_next (below1 hb) np p0
  replace p1 := cell_next (below1 hb) np p1
  replace np := Nat.lt_of_lt_of_le np (below1 hb).size
  replace q0 := cell_next (below1 hb) nq q0
  replace q1 := cell_next (below1 hb) nq q1
  replace nq := Nat.lt_of_lt_of_le nq (below1 hb).size
  replace l0 := cell_next (below1 hb) nl l0
  replace l1 := cell_next (below1 hb) nl l1
  replace nl := Nat.lt_of_lt_of_le nl (below1 hb).size
  have r0 := cell_next hb (b := W10.heap.size) (o := 0) (by simp <;> omega) (v := some (.int .i64 rl)) (by simp [go_sem])
  have r1 := cell_next hb (b := W10.heap.size) (o := 1) (by simp <;> omega) (v := some (.int .i64 rh)) (by simp [go_sem])
  have nr : W10.heap.size < W11.heap.size := by have := hb.size; simp at this; omega
  replace hB := hB.trans ((below1 hb).mono hB.size)
  clear hb
  generalize W10.heap.size = q11 at *
  simp only [List.take_succ_cons, List.take_zero, List.drop_succ_cons, List.drop_zero]
  repeat still_step
  try refine wpStill_nil ?_
  go_wp2_with fail
  refine (HK.out _).mono ?_
  rintro e W12 ⟨rfl, hb⟩
  replace A0 := cell_next hb nA A0
  replace A1 := cell_next hb nA A1
  replace nA := Nat.lt_of_lt_of_le nA hb.size
  replace B0 := cell_next hb nB B0
  replace B1 := cell_next hb nB B1
  replace nB := Nat.lt_of_lt_of_le nB hb.size
  replace x0 := cell_next hb nx x0
  replace x1 := cell_next hb nx x1
  replace nx := Nat.lt_of_lt_of_le nx hb.size
  replace y0 := cell_next hb ny y0
  replace y1 := cell_next hb ny y1
  replace ny := Nat.lt_of_lt_of_le ny hb.size
  replace s0 := cell_next hb ns s0
  replace s1 := cell_next hb ns s1
  replace ns := Nat.lt_of_lt_of_le ns hb.size
  replace t0 := cell_next hb nt t0
  replace t1 := cell_next hb nt t1
  replace nt := Nat.lt_of_lt_of_le nt hb.size
  replace p0 := cell_next hb np p0
  replace p1 := cell_next hb np p1
  replace np := Nat.lt_of_lt_of_le np hb.size
  replace q0 := cell_next hb nq q0
  replace q1 := cell_next hb nq q1
  replace nq := Nat.lt_of_lt_of_le nq hb.size
  replace l0 := cell_next hb nl l0
  replace l1 := cell_next hb nl l1
  replace nl := Nat.lt_of_lt_of_le nl hb.size
  replace r0 := cell_next hb nr r0
  replace r1 := cell_next hb nr r1
  replace nr := Nat.lt_of_lt_of_le nr hb.size
  replace hB := hB.trans (hb.mono hB.size)
  clear hb
  go_wp2_with fail
  go_ret
  exact ⟨rfl, hB⟩
end Go.Proofs.Ytiibbnbknmeplaa
