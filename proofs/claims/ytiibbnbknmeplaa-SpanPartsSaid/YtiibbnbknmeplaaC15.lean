/- Contracts: sums, products and comparison of parts, and a part of a number. -/
import Derived.Test.YtiibbnbknmeplaaC14
import Derived.Test.YtiibbnbknmeplaaC3
import Derived.Test.YtiibbnbknmeplaaD65
namespace Go.Proofs.Ytiibbnbknmeplaa
open Go.RowKit Go.Lib
set_option linter.unusedVariables false
set_option linter.unusedSimpArgs false
attribute [local go_sem ↓] Go.wp_at_zero Go.wp_at_succ

def vvB (a b c d : Int) : Bool := vpB a b && vpB c d
def adN (a b c d : Int) : Int := if vvB a b c d then lowRN (a * d + c * b) (b * d) else 0
def adQ (a b c d : Int) : Int := if vvB a b c d then lowRQ (a * d + c * b) (b * d) else 0
def adE (a b c d : Int) : Int := if vvB a b c d then lowRE (a * d + c * b) (b * d) else 2
def muN (a b c d : Int) : Int := if vvB a b c d then lowRN (a * c) (b * d) else 0
def muQ (a b c d : Int) : Int := if vvB a b c d then lowRQ (a * c) (b * d) else 0
def muE (a b c d : Int) : Int := if vvB a b c d then lowRE (a * c) (b * d) else 2
def cpS (x y : Int) : Int := if x < y then -1 else if y < x then 1 else 0
def cpV (a b c d : Int) : Int := if vvB a b c d then cpS (a * d) (c * b) else 0
def cpE (a b c d : Int) : Int := if vvB a b c d then 0 else 2
def ofL (n p q : Int) : Int := if vpB p q then (if vnB n then fitL (qLo n p q) (qHi n p q) else 0) else 0
def ofH (n p q : Int) : Int := if vpB p q then (if vnB n then fitH (qLo n p q) (qHi n p q) else 0) else 0
def ofE (n p q : Int) : Int := if vpB p q then (if vnB n then fitE (qLo n p q) (qHi n p q) else 3) else 2
theorem vv_bd {a b c d : Int} (ha : vpB a b = true) (hb : vpB c d = true) : (-1000000000000000000 ≤ a * d ∧ a * d ≤ 1000000000000000000) ∧ (-1000000000000000000 ≤ c * b ∧ c * b ≤ 1000000000000000000) ∧ (1 ≤ b * d ∧ b * d ≤ 1000000000000000000) ∧ (-1000000000000000000 ≤ a * c ∧ a * c ≤ 1000000000000000000) := by
  obtain ⟨a1, a2, b1, b2, _⟩ := vpB_of ha
  obtain ⟨c1, c2, d1, d2, _⟩ := vpB_of hb
  have key : ∀ x y : Int, -1000000000 ≤ x → x ≤ 1000000000 → -1000000000 ≤ y → y ≤ 1000000000 → -1000000000000000000 ≤ x * y ∧ x * y ≤ 1000000000000000000 := by
    intro x y h1 h2 h3 h4
    have h : (x * y).natAbs ≤ 1000000000 * 1000000000 := by rw [Int.natAbs_mul]; exact Nat.mul_le_mul (by omega) (by omega)
    omega
  refine ⟨key a d (by omega) (by omega) (by omega) (by omega), key c b (by omega) (by omega) (by omega) (by omega), ⟨?_, (key b d (by omega) (by omega) (by omega) (by omega)).2⟩, key a c (by omega) (by omega) (by omega) (by omega)⟩
  have := Int.mul_pos (show 0 < b by omega) (show 0 < d by omega)
  omega

theorem below_undrw {n k : Nat} {W W' : World} (h : Below n (W.drewN k) W') : Below n W W' := ⟨h.os, h.tape, h.output, h.size, h.block⟩

set_option maxRecDepth 20000 in
set_option maxHeartbeats 1000000 in
theorem addPart_any (a b c d : Int) (w : World) :
    Calls Try.prog 40 #[.agg #[.int .i64 a, .int .i64 b], .agg #[.int .i64 c, .int .i64 d]] w fun e w' => e = .returned (.tuple #[.agg #[.int .i64 (adN a b c d), .int .i64 (adQ a b c d)], .int .i64 (adE a b c d)]) ∧ Below w.heap.size w w' := by
  have c1 := Lib.hid (validPart_any a b)
  have c2 := Lib.hid (validPart_any c d)
  have EN : Hid (adN a b c d = if (vpB a b && vpB c d) = true then lowRN (a * d + c * b) (b * d) else 0) := Lib.hid rfl
  have EQ : Hid (adQ a b c d = if (vpB a b && vpB c d) = true then lowRQ (a * d + c * b) (b * d) else 0) := Lib.hid rfl
  have EE : Hid (adE a b c d = if (vpB a b && vpB c d) = true then lowRE (a * d + c * b) (b * d) else 2) := Lib.hid rfl
  have HV := Lib.hid (@vv_bd a b c d)
  generalize adN a b c d = rn at *
  generalize adQ a b c d = rq at *
  generalize adE a b c d = re at *
  generalize vpB a b = p at *
  generalize vpB c d = q at *
  cases p
  · simp only [Bool.false_and, Bool.false_eq_true, if_false] at EN EQ EE
    clear HV
    go_enter Try.func40, Try.ntmps40
    go_wp2_with fail
    refine (c1.out _).mono ?_
    rintro e W1 ⟨rfl, hb⟩
    have A0 := cell_next hb (b := w.heap.size) (o := 0) (by simp <;> omega) (v := some (.int .i64 a)) (by simp [go_sem])
    have A1 := cell_next hb (b := w.heap.size) (o := 1) (by simp <;> omega) (v := some (.int .i64 b)) (by simp [go_sem])
    have nA : w.heap.size < W1.heap.size := by have := hb.size; simp at this; omega
    have B0 := cell_next hb (b := w.heap.size + 1) (o := 0) (by simp <;> omega) (v := some (.int .i64 c)) (by simp [go_sem])
    have B1 := cell_next hb (b := w.heap.size + 1) (o := 1) (by simp <;> omega) (v := some (.int .i64 d)) (by simp [go_sem])
    have nB : w.heap.size + 1 < W1.heap.size := by have := hb.size; simp at this; omega
    have r0 := cell_next hb (b := w.heap.size + 1 + 1) (o := 0) (by simp <;> omega) (v := some (.int .i64 0)) (by simp [go_sem])
    have fr0 := frozen_next hb (b := w.heap.size + 1 + 1) (o := 0) (by simp <;> omega) (v := false) (by simp [go_sem])
    have r1 := cell_next hb (b := w.heap.size + 1 + 1) (o := 1) (by simp <;> omega) (v := some (.int .i64 0)) (by simp [go_sem])
    have fr1 := frozen_next hb (b := w.heap.size + 1 + 1) (o := 1) (by simp <;> omega) (v := false) (by simp [go_sem])
    have nr : w.heap.size + 1 + 1 < W1.heap.size := by have := hb.size; simp at this; omega
    have hB := (below3 hb)
    clear hb
    go_wp2_with fail
    refine bodyPost_ret (v := .tuple #[.agg #[.int .i64 0, .int .i64 0], .int .i64 2]) (by simp [results, Try.results40, go_sem, r0, r1, fr0, fr1]) rfl ⟨by rw [EN.out, EQ.out, EE.out], ?_⟩
    exact ((hB.setCell (p := ⟨w.heap.size + 1 + 1, 0, none⟩) (by simp <;> omega) _).setCell (p := ⟨w.heap.size + 1 + 1, 1, none⟩) (by simp <;> omega) _)
  · cases q
    · simp only [Bool.and_false, Bool.false_eq_true, if_false] at EN EQ EE
      clear HV
      go_enter Try.func40, Try.ntmps40
      go_wp2_with fail
      refine (c1.out _).mono ?_
      rintro e W1 ⟨rfl, hb⟩
      have A0 := cell_next hb (b := w.heap.size) (o := 0) (by simp <;> omega) (v := some (.int .i64 a)) (by simp [go_sem])
      have A1 := cell_next hb (b := w.heap.size) (o := 1) (by simp <;> omega) (v := some (.int .i64 b)) (by simp [go_sem])
      have nA : w.heap.size < W1.heap.size := by have := hb.size; simp at this; omega
      have B0 := cell_next hb (b := w.heap.size + 1) (o := 0) (by simp <;> omega) (v := some (.int .i64 c)) (by simp [go_sem])
      have B1 := cell_next hb (b := w.heap.size + 1) (o := 1) (by simp <;> omega) (v := some (.int .i64 d)) (by simp [go_sem])
      have nB : w.heap.size + 1 < W1.heap.size := by have := hb.size; simp at this; omega
      have r0 := cell_next hb (b := w.heap.size + 1 + 1) (o := 0) (by simp <;> omega) (v := some (.int .i64 0)) (by simp [go_sem])
      have fr0 := frozen_next hb (b := w.heap.size + 1 + 1) (o := 0) (by simp <;> omega) (v := false) (by simp [go_sem])
      have r1 := cell_next hb (b := w.heap.size + 1 + 1) (o := 1) (by simp <;> omega) (v := some (.int .i64 0)) (by simp [go_sem])
      have fr1 := frozen_next hb (b := w.heap.size + 1 + 1) (o := 1) (by simp <;> omega) (v := false) (by simp [go_sem])
      have nr : w.heap.size + 1 + 1 < W1.heap.size := by have := hb.size; simp at this; omega
      have hB := (below3 hb)
      clear hb
      go_wp2_with fail
      refine (c2.out _).mono ?_
      rintro e W2 ⟨rfl, hb⟩
      replace A0 := cell_next hb nA A0
      replace A1 := cell_next hb nA A1
      replace nA := Nat.lt_of_lt_of_le nA hb.size
      replace B0 := cell_next hb nB B0
      replace B1 := cell_next hb nB B1
      replace nB := Nat.lt_of_lt_of_le nB hb.size
      replace r0 := cell_next hb nr r0
      replace fr0 := frozen_next hb nr fr0
      replace r1 := cell_next hb nr r1
      replace fr1 := frozen_next hb nr fr1
      replace nr := Nat.lt_of_lt_of_le nr hb.size
      replace hB := hB.trans (hb.mono hB.size)
      clear hb
      go_wp2_with fail
      refine bodyPost_ret (v := .tuple #[.agg #[.int .i64 0, .int .i64 0], .int .i64 2]) (by simp [results, Try.results40, go_sem, r0, r1, fr0, fr1]) rfl ⟨by rw [EN.out, EQ.out, EE.out], ?_⟩
      exact ((hB.setCell (p := ⟨w.heap.size + 1 + 1, 0, none⟩) (by simp <;> omega) _).setCell (p := ⟨w.heap.size + 1 + 1, 1, none⟩) (by simp <;> omega) _)
    · simp only [Bool.and_self, if_true] at EN EQ EE
      obtain ⟨⟨v1, v2⟩, ⟨v3, v4⟩, ⟨v5, v6⟩, ⟨v7, v8⟩⟩ := HV.out rfl rfl
      clear HV
      have c3 := Lib.hid (lowest_any (a * d + c * b) (b * d) ⟨by omega, by omega⟩ ⟨by omega, by omega⟩ (by omega))
      generalize lowRN (a * d + c * b) (b * d) = ln at *
      generalize lowRQ (a * d + c * b) (b * d) = lq at *
      generalize lowRE (a * d + c * b) (b * d) = le at *
      have g0 : IntKind.i64.wrap (a * d) = a * d := IntWalk.i64_in _ (by omega)
      have g1 : IntKind.i64.wrap (c * b) = c * b := IntWalk.i64_in _ (by omega)
      have g2 : IntKind.i64.wrap (b * d) = b * d := IntWalk.i64_in _ (by omega)
      have g3 : IntKind.i64.wrap (a * d + c * b) = a * d + c * b := IntWalk.i64_in _ (by omega)
      clear v1 v2 v3 v4 v5 v6 v7 v8
      go_enter Try.func40, Try.ntmps40
      go_wp2_with fail
      refine (c1.out _).mono ?_
      rintro e W1 ⟨rfl, hb⟩
      have A0 := cell_next hb (b := w.heap.size) (o := 0) (by simp <;> omega) (v := some (.int .i64 a)) (by simp [go_sem])
      have A1 := cell_next hb (b := w.heap.size) (o := 1) (by simp <;> omega) (v := some (.int .i64 b)) (by simp [go_sem])
      have nA : w.heap.size < W1.heap.size := by have := hb.size; simp at this; omega
      have B0 := cell_next hb (b := w.heap.size + 1) (o := 0) (by simp <;> omega) (v := some (.int .i64 c)) (by simp [go_sem])
      have B1 := cell_next hb (b := w.heap.size + 1) (o := 1) (by simp <;> omega) (v := some (.int .i64 d)) (by simp [go_sem])
      have nB : w.heap.size + 1 < W1.heap.size := by have := hb.size; simp at this; omega
      have r0 := cell_next hb (b := w.heap.size + 1 + 1) (o := 0) (by simp <;> omega) (v := some (.int .i64 0)) (by simp [go_sem])
      have fr0 := frozen_next hb (b := w.heap.size + 1 + 1) (o := 0) (by simp <;> omega) (v := false) (by simp [go_sem])
      have r1 := cell_next hb (b := w.heap.size + 1 + 1) (o := 1) (by simp <;> omega) (v := some (.int .i64 0)) (by simp [go_sem])
      have fr1 := frozen_next hb (b := w.heap.size + 1 + 1) (o := 1) (by simp <;> omega) (v := false) (by simp [go_sem])
      have nr : w.heap.size + 1 + 1 < W1.heap.size := by have := hb.size; simp at this; omega
      have hB := (below3 hb)
      clear hb
      go_wp2_with fail
      refine (c2.out _).mono ?_
      rintro e W2 ⟨rfl, hb⟩
      replace A0 := cell_next hb nA A0
      replace A1 := cell_next hb nA A1
      replace nA := Nat.lt_of_lt_of_le nA hb.size
      replace B0 := cell_next hb nB B0
      replace B1 := cell_next hb nB B1
      replace nB := Nat.lt_of_lt_of_le nB hb.size
      replace r0 := cell_next hb nr r0
      replace fr0 := frozen_next hb nr fr0
      replace r1 := cell_next hb nr r1
      replace fr1 := frozen_next hb nr fr1
      replace nr := Nat.lt_of_lt_of_le nr hb.size
      replace hB := hB.trans (hb.mono hB.size)
      clear hb
      go_wp2_with fail
      refine (c3.out _).mono ?_
      rintro e W3 ⟨rfl, hb⟩
      replace A0 := cell_next hb nA A0
      replace A1 := cell_next hb nA A1
      replace nA := Nat.lt_of_lt_of_le nA hb.size
      replace B0 := cell_next hb nB B0
      replace B1 := cell_next hb nB B1
      replace nB := Nat.lt_of_lt_of_le nB hb.size
      replace r0 := cell_next hb nr r0
      replace fr0 := frozen_next hb nr fr0
      replace r1 := cell_next hb nr r1
      replace fr1 := frozen_next hb nr fr1
      replace nr := Nat.lt_of_lt_of_le nr hb.size
      replace hB := hB.trans (hb.mono hB.size)
      clear hb
      go_wp2_with fail
      refine bodyPost_ret (v := .tuple #[.agg #[.int .i64 ln, .int .i64 lq], .int .i64 le]) (by simp [results, Try.results40, go_sem, r0, r1, fr0, fr1]) rfl ⟨by rw [EN.out, EQ.out, EE.out], ?_⟩
      exact ((hB.setCell (p := ⟨w.heap.size + 1 + 1, 0, none⟩) (by simp <;> omega) _).setCell (p := ⟨w.heap.size + 1 + 1, 1, none⟩) (by simp <;> omega) _)

set_option maxRecDepth 20000 in
set_option maxHeartbeats 1000000 in
theorem mulPart_any (a b c d : Int) (w : World) :
    Calls Try.prog 41 #[.agg #[.int .i64 a, .int .i64 b], .agg #[.int .i64 c, .int .i64 d]] w fun e w' => e = .returned (.tuple #[.agg #[.int .i64 (muN a b c d), .int .i64 (muQ a b c d)], .int .i64 (muE a b c d)]) ∧ Below w.heap.size w w' := by
  have c1 := Lib.hid (validPart_any a b)
  have c2 := Lib.hid (validPart_any c d)
  have EN : Hid (muN a b c d = if (vpB a b && vpB c d) = true then lowRN (a * c) (b * d) else 0) := Lib.hid rfl
  have EQ : Hid (muQ a b c d = if (vpB a b && vpB c d) = true then lowRQ (a * c) (b * d) else 0) := Lib.hid rfl
  have EE : Hid (muE a b c d = if (vpB a b && vpB c d) = true then lowRE (a * c) (b * d) else 2) := Lib.hid rfl
  have HV := Lib.hid (@vv_bd a b c d)
  generalize muN a b c d = rn at *
  generalize muQ a b c d = rq at *
  generalize muE a b c d = re at *
  generalize vpB a b = p at *
  generalize vpB c d = q at *
  cases p
  · simp only [Bool.false_and, Bool.false_eq_true, if_false] at EN EQ EE
    clear HV
    go_enter Try.func41, Try.ntmps41
    go_wp2_with fail
    refine (c1.out _).mono ?_
    rintro e W1 ⟨rfl, hb⟩
    have A0 := cell_next hb (b := w.heap.size) (o := 0) (by simp <;> omega) (v := some (.int .i64 a)) (by simp [go_sem])
    have A1 := cell_next hb (b := w.heap.size) (o := 1) (by simp <;> omega) (v := some (.int .i64 b)) (by simp [go_sem])
    have nA : w.heap.size < W1.heap.size := by have := hb.size; simp at this; omega
    have B0 := cell_next hb (b := w.heap.size + 1) (o := 0) (by simp <;> omega) (v := some (.int .i64 c)) (by simp [go_sem])
    have B1 := cell_next hb (b := w.heap.size + 1) (o := 1) (by simp <;> omega) (v := some (.int .i64 d)) (by simp [go_sem])
    have nB : w.heap.size + 1 < W1.heap.size := by have := hb.size; simp at this; omega
    have r0 := cell_next hb (b := w.heap.size + 1 + 1) (o := 0) (by simp <;> omega) (v := some (.int .i64 0)) (by simp [go_sem])
    have fr0 := frozen_next hb (b := w.heap.size + 1 + 1) (o := 0) (by simp <;> omega) (v := false) (by simp [go_sem])
    have r1 := cell_next hb (b := w.heap.size + 1 + 1) (o := 1) (by simp <;> omega) (v := some (.int .i64 0)) (by simp [go_sem])
    have fr1 := frozen_next hb (b := w.heap.size + 1 + 1) (o := 1) (by simp <;> omega) (v := false) (by simp [go_sem])
    have nr : w.heap.size + 1 + 1 < W1.heap.size := by have := hb.size; simp at this; omega
    have hB := (below3 hb)
    clear hb
    go_wp2_with fail
    refine bodyPost_ret (v := .tuple #[.agg #[.int .i64 0, .int .i64 0], .int .i64 2]) (by simp [results, Try.results41, go_sem, r0, r1, fr0, fr1]) rfl ⟨by rw [EN.out, EQ.out, EE.out], ?_⟩
    exact ((hB.setCell (p := ⟨w.heap.size + 1 + 1, 0, none⟩) (by simp <;> omega) _).setCell (p := ⟨w.heap.size + 1 + 1, 1, none⟩) (by simp <;> omega) _)
  · cases q
    · simp only [Bool.and_false, Bool.false_eq_true, if_false] at EN EQ EE
      clear HV
      go_enter Try.func41, Try.ntmps41
      go_wp2_with fail
      refine (c1.out _).mono ?_
      rintro e W1 ⟨rfl, hb⟩
      have A0 := cell_next hb (b := w.heap.size) (o := 0) (by simp <;> omega) (v := some (.int .i64 a)) (by simp [go_sem])
      have A1 := cell_next hb (b := w.heap.size) (o := 1) (by simp <;> omega) (v := some (.int .i64 b)) (by simp [go_sem])
      have nA : w.heap.size < W1.heap.size := by have := hb.size; simp at this; omega
      have B0 := cell_next hb (b := w.heap.size + 1) (o := 0) (by simp <;> omega) (v := some (.int .i64 c)) (by simp [go_sem])
      have B1 := cell_next hb (b := w.heap.size + 1) (o := 1) (by simp <;> omega) (v := some (.int .i64 d)) (by simp [go_sem])
      have nB : w.heap.size + 1 < W1.heap.size := by have := hb.size; simp at this; omega
      have r0 := cell_next hb (b := w.heap.size + 1 + 1) (o := 0) (by simp <;> omega) (v := some (.int .i64 0)) (by simp [go_sem])
      have fr0 := frozen_next hb (b := w.heap.size + 1 + 1) (o := 0) (by simp <;> omega) (v := false) (by simp [go_sem])
      have r1 := cell_next hb (b := w.heap.size + 1 + 1) (o := 1) (by simp <;> omega) (v := some (.int .i64 0)) (by simp [go_sem])
      have fr1 := frozen_next hb (b := w.heap.size + 1 + 1) (o := 1) (by simp <;> omega) (v := false) (by simp [go_sem])
      have nr : w.heap.size + 1 + 1 < W1.heap.size := by have := hb.size; simp at this; omega
      have hB := (below3 hb)
      clear hb
      go_wp2_with fail
      refine (c2.out _).mono ?_
      rintro e W2 ⟨rfl, hb⟩
      replace A0 := cell_next hb nA A0
      replace A1 := cell_next hb nA A1
      replace nA := Nat.lt_of_lt_of_le nA hb.size
      replace B0 := cell_next hb nB B0
      replace B1 := cell_next hb nB B1
      replace nB := Nat.lt_of_lt_of_le nB hb.size
      replace r0 := cell_next hb nr r0
      replace fr0 := frozen_next hb nr fr0
      replace r1 := cell_next hb nr r1
      replace fr1 := frozen_next hb nr fr1
      replace nr := Nat.lt_of_lt_of_le nr hb.size
      replace hB := hB.trans (hb.mono hB.size)
      clear hb
      go_wp2_with fail
      refine bodyPost_ret (v := .tuple #[.agg #[.int .i64 0, .int .i64 0], .int .i64 2]) (by simp [results, Try.results41, go_sem, r0, r1, fr0, fr1]) rfl ⟨by rw [EN.out, EQ.out, EE.out], ?_⟩
      exact ((hB.setCell (p := ⟨w.heap.size + 1 + 1, 0, none⟩) (by simp <;> omega) _).setCell (p := ⟨w.heap.size + 1 + 1, 1, none⟩) (by simp <;> omega) _)
    · simp only [Bool.and_self, if_true] at EN EQ EE
      obtain ⟨⟨v1, v2⟩, ⟨v3, v4⟩, ⟨v5, v6⟩, ⟨v7, v8⟩⟩ := HV.out rfl rfl
      clear HV
      have c3 := Lib.hid (lowest_any (a * c) (b * d) ⟨by omega, by omega⟩ ⟨by omega, by omega⟩ (by omega))
      generalize lowRN (a * c) (b * d) = ln at *
      generalize lowRQ (a * c) (b * d) = lq at *
      generalize lowRE (a * c) (b * d) = le at *
      have g0 : IntKind.i64.wrap (a * c) = a * c := IntWalk.i64_in _ (by omega)
      have g1 : IntKind.i64.wrap (b * d) = b * d := IntWalk.i64_in _ (by omega)
      clear v1 v2 v3 v4 v5 v6 v7 v8
      go_enter Try.func41, Try.ntmps41
      go_wp2_with fail
      refine (c1.out _).mono ?_
      rintro e W1 ⟨rfl, hb⟩
      have A0 := cell_next hb (b := w.heap.size) (o := 0) (by simp <;> omega) (v := some (.int .i64 a)) (by simp [go_sem])
      have A1 := cell_next hb (b := w.heap.size) (o := 1) (by simp <;> omega) (v := some (.int .i64 b)) (by simp [go_sem])
      have nA : w.heap.size < W1.heap.size := by have := hb.size; simp at this; omega
      have B0 := cell_next hb (b := w.heap.size + 1) (o := 0) (by simp <;> omega) (v := some (.int .i64 c)) (by simp [go_sem])
      have B1 := cell_next hb (b := w.heap.size + 1) (o := 1) (by simp <;> omega) (v := some (.int .i64 d)) (by simp [go_sem])
      have nB : w.heap.size + 1 < W1.heap.size := by have := hb.size; simp at this; omega
      have r0 := cell_next hb (b := w.heap.size + 1 + 1) (o := 0) (by simp <;> omega) (v := some (.int .i64 0)) (by simp [go_sem])
      have fr0 := frozen_next hb (b := w.heap.size + 1 + 1) (o := 0) (by simp <;> omega) (v := false) (by simp [go_sem])
      have r1 := cell_next hb (b := w.heap.size + 1 + 1) (o := 1) (by simp <;> omega) (v := some (.int .i64 0)) (by simp [go_sem])
      have fr1 := frozen_next hb (b := w.heap.size + 1 + 1) (o := 1) (by simp <;> omega) (v := false) (by simp [go_sem])
      have nr : w.heap.size + 1 + 1 < W1.heap.size := by have := hb.size; simp at this; omega
      have hB := (below3 hb)
      clear hb
      go_wp2_with fail
      refine (c2.out _).mono ?_
      rintro e W2 ⟨rfl, hb⟩
      replace A0 := cell_next hb nA A0
      replace A1 := cell_next hb nA A1
      replace nA := Nat.lt_of_lt_of_le nA hb.size
      replace B0 := cell_next hb nB B0
      replace B1 := cell_next hb nB B1
      replace nB := Nat.lt_of_lt_of_le nB hb.size
      replace r0 := cell_next hb nr r0
      replace fr0 := frozen_next hb nr fr0
      replace r1 := cell_next hb nr r1
      replace fr1 := frozen_next hb nr fr1
      replace nr := Nat.lt_of_lt_of_le nr hb.size
      replace hB := hB.trans (hb.mono hB.size)
      clear hb
      go_wp2_with fail
      refine (c3.out _).mono ?_
      rintro e W3 ⟨rfl, hb⟩
      replace A0 := cell_next hb nA A0
      replace A1 := cell_next hb nA A1
      replace nA := Nat.lt_of_lt_of_le nA hb.size
      replace B0 := cell_next hb nB B0
      replace B1 := cell_next hb nB B1
      replace nB := Nat.lt_of_lt_of_le nB hb.size
      replace r0 := cell_next hb nr r0
      replace fr0 := frozen_next hb nr fr0
      replace r1 := cell_next hb nr r1
      replace fr1 := frozen_next hb nr fr1
      replace nr := Nat.lt_of_lt_of_le nr hb.size
      replace hB := hB.trans (hb.mono hB.size)
      clear hb
      go_wp2_with fail
      refine bodyPost_ret (v := .tuple #[.agg #[.int .i64 ln, .int .i64 lq], .int .i64 le]) (by simp [results, Try.results41, go_sem, r0, r1, fr0, fr1]) rfl ⟨by rw [EN.out, EQ.out, EE.out], ?_⟩
      exact ((hB.setCell (p := ⟨w.heap.size + 1 + 1, 0, none⟩) (by simp <;> omega) _).setCell (p := ⟨w.heap.size + 1 + 1, 1, none⟩) (by simp <;> omega) _)

set_option maxRecDepth 20000 in
set_option maxHeartbeats 1000000 in
theorem comparePart_any (a b c d : Int) (w : World) :
    Calls Try.prog 39 #[.agg #[.int .i64 a, .int .i64 b], .agg #[.int .i64 c, .int .i64 d]] w fun e w' => e = .returned (.tuple #[.int .i64 (cpV a b c d), .int .i64 (cpE a b c d)]) ∧ Below w.heap.size w w' := by
  have c1 := Lib.hid (validPart_any a b)
  have c2 := Lib.hid (validPart_any c d)
  have EV : Hid (cpV a b c d = if (vpB a b && vpB c d) = true then cpS (a * d) (c * b) else 0) := Lib.hid rfl
  have EE : Hid (cpE a b c d = if (vpB a b && vpB c d) = true then 0 else 2) := Lib.hid rfl
  have HV := Lib.hid (@vv_bd a b c d)
  generalize cpV a b c d = rv at *
  generalize cpE a b c d = re at *
  generalize vpB a b = p at *
  generalize vpB c d = q at *
  cases p
  · simp only [Bool.false_and, Bool.false_eq_true, if_false] at EV EE
    clear HV
    go_enter Try.func39, Try.ntmps39
    go_wp2_with fail
    refine (c1.out _).mono ?_
    rintro e W1 ⟨rfl, hb⟩
    have A0 := cell_next hb (b := w.heap.size) (o := 0) (by simp <;> omega) (v := some (.int .i64 a)) (by simp [go_sem])
    have A1 := cell_next hb (b := w.heap.size) (o := 1) (by simp <;> omega) (v := some (.int .i64 b)) (by simp [go_sem])
    have nA : w.heap.size < W1.heap.size := by have := hb.size; simp at this; omega
    have B0 := cell_next hb (b := w.heap.size + 1) (o := 0) (by simp <;> omega) (v := some (.int .i64 c)) (by simp [go_sem])
    have B1 := cell_next hb (b := w.heap.size + 1) (o := 1) (by simp <;> omega) (v := some (.int .i64 d)) (by simp [go_sem])
    have nB : w.heap.size + 1 < W1.heap.size := by have := hb.size; simp at this; omega
    have hB := (below2 hb)
    clear hb
    go_wp2_with fail
    go_ret2
    exact ⟨ret_ints2 EV.out.symm EE.out.symm, hB⟩
  · cases q
    · simp only [Bool.and_false, Bool.false_eq_true, if_false] at EV EE
      clear HV
      go_enter Try.func39, Try.ntmps39
      go_wp2_with fail
      refine (c1.out _).mono ?_
      rintro e W1 ⟨rfl, hb⟩
      have A0 := cell_next hb (b := w.heap.size) (o := 0) (by simp <;> omega) (v := some (.int .i64 a)) (by simp [go_sem])
      have A1 := cell_next hb (b := w.heap.size) (o := 1) (by simp <;> omega) (v := some (.int .i64 b)) (by simp [go_sem])
      have nA : w.heap.size < W1.heap.size := by have := hb.size; simp at this; omega
      have B0 := cell_next hb (b := w.heap.size + 1) (o := 0) (by simp <;> omega) (v := some (.int .i64 c)) (by simp [go_sem])
      have B1 := cell_next hb (b := w.heap.size + 1) (o := 1) (by simp <;> omega) (v := some (.int .i64 d)) (by simp [go_sem])
      have nB : w.heap.size + 1 < W1.heap.size := by have := hb.size; simp at this; omega
      have hB := (below2 hb)
      clear hb
      go_wp2_with fail
      refine (c2.out _).mono ?_
      rintro e W2 ⟨rfl, hb⟩
      replace A0 := cell_next hb nA A0
      replace A1 := cell_next hb nA A1
      replace nA := Nat.lt_of_lt_of_le nA hb.size
      replace B0 := cell_next hb nB B0
      replace B1 := cell_next hb nB B1
      replace nB := Nat.lt_of_lt_of_le nB hb.size
      replace hB := hB.trans (hb.mono hB.size)
      clear hb
      go_wp2_with fail
      go_ret2
      exact ⟨ret_ints2 EV.out.symm EE.out.symm, hB⟩
    · simp only [Bool.and_self, if_true] at EV EE
      obtain ⟨⟨v1, v2⟩, ⟨v3, v4⟩, ⟨v5, v6⟩, ⟨v7, v8⟩⟩ := HV.out rfl rfl
      clear HV v5 v6 v7 v8
      have g0 : IntKind.i64.wrap (a * d) = a * d := IntWalk.i64_in _ (by omega)
      have g1 : IntKind.i64.wrap (c * b) = c * b := IntWalk.i64_in _ (by omega)
      clear v1 v2 v3 v4
      by_cases h1 : a * d < c * b
      · have EV := Lib.hid (EV.out.trans (show cpS (a * d) (c * b) = -1 from if_pos h1))
        go_enter Try.func39, Try.ntmps39
        go_wp2_with fail
        refine (c1.out _).mono ?_
        rintro e W1 ⟨rfl, hb⟩
        have A0 := cell_next hb (b := w.heap.size) (o := 0) (by simp <;> omega) (v := some (.int .i64 a)) (by simp [go_sem])
        have A1 := cell_next hb (b := w.heap.size) (o := 1) (by simp <;> omega) (v := some (.int .i64 b)) (by simp [go_sem])
        have nA : w.heap.size < W1.heap.size := by have := hb.size; simp at this; omega
        have B0 := cell_next hb (b := w.heap.size + 1) (o := 0) (by simp <;> omega) (v := some (.int .i64 c)) (by simp [go_sem])
        have B1 := cell_next hb (b := w.heap.size + 1) (o := 1) (by simp <;> omega) (v := some (.int .i64 d)) (by simp [go_sem])
        have nB : w.heap.size + 1 < W1.heap.size := by have := hb.size; simp at this; omega
        have hB := (below2 hb)
        clear hb
        go_wp2_with fail
        refine (c2.out _).mono ?_
        rintro e W2 ⟨rfl, hb⟩
        replace A0 := cell_next hb nA A0
        replace A1 := cell_next hb nA A1
        replace nA := Nat.lt_of_lt_of_le nA hb.size
        replace B0 := cell_next hb nB B0
        replace B1 := cell_next hb nB B1
        replace nB := Nat.lt_of_lt_of_le nB hb.size
        replace hB := hB.trans (hb.mono hB.size)
        clear hb
        go_wp2_with fail
        go_quiet (fail)
        go_wp2_with fail
        go_ret2
        exact ⟨ret_ints2 EV.out.symm EE.out.symm, below_drewN hB _⟩
      · by_cases h2 : c * b < a * d
        · have EV := Lib.hid (EV.out.trans (show cpS (a * d) (c * b) = 1 from (if_neg h1).trans (if_pos h2)))
          go_enter Try.func39, Try.ntmps39
          go_wp2_with fail
          refine (c1.out _).mono ?_
          rintro e W1 ⟨rfl, hb⟩
          have A0 := cell_next hb (b := w.heap.size) (o := 0) (by simp <;> omega) (v := some (.int .i64 a)) (by simp [go_sem])
          have A1 := cell_next hb (b := w.heap.size) (o := 1) (by simp <;> omega) (v := some (.int .i64 b)) (by simp [go_sem])
          have nA : w.heap.size < W1.heap.size := by have := hb.size; simp at this; omega
          have B0 := cell_next hb (b := w.heap.size + 1) (o := 0) (by simp <;> omega) (v := some (.int .i64 c)) (by simp [go_sem])
          have B1 := cell_next hb (b := w.heap.size + 1) (o := 1) (by simp <;> omega) (v := some (.int .i64 d)) (by simp [go_sem])
          have nB : w.heap.size + 1 < W1.heap.size := by have := hb.size; simp at this; omega
          have hB := (below2 hb)
          clear hb
          go_wp2_with fail
          refine (c2.out _).mono ?_
          rintro e W2 ⟨rfl, hb⟩
          replace A0 := cell_next hb nA A0
          replace A1 := cell_next hb nA A1
          replace nA := Nat.lt_of_lt_of_le nA hb.size
          replace B0 := cell_next hb nB B0
          replace B1 := cell_next hb nB B1
          replace nB := Nat.lt_of_lt_of_le nB hb.size
          replace hB := hB.trans (hb.mono hB.size)
          clear hb
          go_wp2_with fail
          go_quiet (fail)
          go_wp2_with fail
          go_ret2
          exact ⟨ret_ints2 EV.out.symm EE.out.symm, below_drewN hB _⟩
        · have EV := Lib.hid (EV.out.trans (show cpS (a * d) (c * b) = 0 from (if_neg h1).trans (if_neg h2)))
          go_enter Try.func39, Try.ntmps39
          go_wp2_with fail
          refine (c1.out _).mono ?_
          rintro e W1 ⟨rfl, hb⟩
          have A0 := cell_next hb (b := w.heap.size) (o := 0) (by simp <;> omega) (v := some (.int .i64 a)) (by simp [go_sem])
          have A1 := cell_next hb (b := w.heap.size) (o := 1) (by simp <;> omega) (v := some (.int .i64 b)) (by simp [go_sem])
          have nA : w.heap.size < W1.heap.size := by have := hb.size; simp at this; omega
          have B0 := cell_next hb (b := w.heap.size + 1) (o := 0) (by simp <;> omega) (v := some (.int .i64 c)) (by simp [go_sem])
          have B1 := cell_next hb (b := w.heap.size + 1) (o := 1) (by simp <;> omega) (v := some (.int .i64 d)) (by simp [go_sem])
          have nB : w.heap.size + 1 < W1.heap.size := by have := hb.size; simp at this; omega
          have hB := (below2 hb)
          clear hb
          go_wp2_with fail
          refine (c2.out _).mono ?_
          rintro e W2 ⟨rfl, hb⟩
          replace A0 := cell_next hb nA A0
          replace A1 := cell_next hb nA A1
          replace nA := Nat.lt_of_lt_of_le nA hb.size
          replace B0 := cell_next hb nB B0
          replace B1 := cell_next hb nB B1
          replace nB := Nat.lt_of_lt_of_le nB hb.size
          replace hB := hB.trans (hb.mono hB.size)
          clear hb
          go_wp2_with fail
          go_quiet (fail)
          go_wp2_with fail
          go_ret2
          exact ⟨ret_ints2 EV.out.symm EE.out.symm, below_drewN hB _⟩

set_option maxRecDepth 20000 in
set_option maxHeartbeats 1000000 in
theorem of_any (n a b : Int) (w : World) :
    Calls Try.prog 37 #[.int .i64 n, .agg #[.int .i64 a, .int .i64 b]] w fun e w' => e = .returned (.tuple #[.agg #[.int .i64 (ofL n a b), .int .i64 (ofH n a b)], .int .i64 (ofE n a b)]) ∧ Below w.heap.size w w' := by
  have c1 := Lib.hid (validPart_any a b)
  have c2 := Lib.hid (validNumber_any n)
  have EL : Hid (ofL n a b = if vpB a b = true then (if vnB n = true then fitL (qLo n a b) (qHi n a b) else 0) else 0) := Lib.hid rfl
  have EH : Hid (ofH n a b = if vpB a b = true then (if vnB n = true then fitH (qLo n a b) (qHi n a b) else 0) else 0) := Lib.hid rfl
  have EE : Hid (ofE n a b = if vpB a b = true then (if vnB n = true then fitE (qLo n a b) (qHi n a b) else 3) else 2) := Lib.hid rfl
  have c3 : Hid (vpB a b = true → vnB n = true → ∀ w, Calls Try.prog 100 #[.agg #[.int .i64 n, .int .i64 a, .int .i64 b]] w fun e w' => e = .returned (.agg #[.int .i64 (qLo n a b), .int .i64 (qHi n a b)]) ∧ Below w.heap.size w w') := Lib.hid (fun h1 h2 w => by
    obtain ⟨a1, a2, b1, b2, _⟩ := vpB_of h1
    obtain ⟨n1, n2⟩ := vnB_of h2
    exact around_of n a b (divide_any n a b ⟨by omega, by omega⟩ ⟨by omega, by omega⟩ ⟨by omega, by omega⟩ (by omega)) w)
  have c4 := Lib.hid (within_any (qLo n a b) (qHi n a b))
  generalize ofL n a b = rl at *
  generalize ofH n a b = rh at *
  generalize ofE n a b = re at *
  generalize fitL (qLo n a b) (qHi n a b) = fl at *
  generalize fitH (qLo n a b) (qHi n a b) = fh at *
  generalize fitE (qLo n a b) (qHi n a b) = fe at *
  generalize qLo n a b = lo at *
  generalize qHi n a b = hi at *
  generalize vpB a b = p at *
  generalize vnB n = q at *
  cases p
  · simp only [Bool.false_eq_true, if_false] at EL EH EE
    go_enter Try.func37, Try.ntmps37
    go_wp2_with fail
    refine (c1.out _).mono ?_
    rintro e W1 ⟨rfl, hb⟩
    have A0 := cell_next hb (b := w.heap.size) (o := 0) (by simp <;> omega) (v := some (.int .i64 a)) (by simp [go_sem])
    have A1 := cell_next hb (b := w.heap.size) (o := 1) (by simp <;> omega) (v := some (.int .i64 b)) (by simp [go_sem])
    have nA : w.heap.size < W1.heap.size := by have := hb.size; simp at this; omega
    have r0 := cell_next hb (b := w.heap.size + 1) (o := 0) (by simp <;> omega) (v := some (.int .i64 0)) (by simp [go_sem])
    have fr0 := frozen_next hb (b := w.heap.size + 1) (o := 0) (by simp <;> omega) (v := false) (by simp [go_sem])
    have r1 := cell_next hb (b := w.heap.size + 1) (o := 1) (by simp <;> omega) (v := some (.int .i64 0)) (by simp [go_sem])
    have fr1 := frozen_next hb (b := w.heap.size + 1) (o := 1) (by simp <;> omega) (v := false) (by simp [go_sem])
    have nr : w.heap.size + 1 < W1.heap.size := by have := hb.size; simp at this; omega
    have hB := (below2 hb)
    clear hb
    go_wp2_with fail
    refine bodyPost_ret (v := .tuple #[.agg #[.int .i64 0, .int .i64 0], .int .i64 2]) (by simp [results, Try.results37, go_sem, r0, r1, fr0, fr1]) rfl ⟨by rw [EL.out, EH.out, EE.out], ?_⟩
    exact ((hB.setCell (p := ⟨w.heap.size + 1, 0, none⟩) (by simp <;> omega) _).setCell (p := ⟨w.heap.size + 1, 1, none⟩) (by simp <;> omega) _)
  · cases q
    · simp only [Bool.false_eq_true, if_false, if_true] at EL EH EE
      go_enter Try.func37, Try.ntmps37
      go_wp2_with fail
      refine (c1.out _).mono ?_
      rintro e W1 ⟨rfl, hb⟩
      have A0 := cell_next hb (b := w.heap.size) (o := 0) (by simp <;> omega) (v := some (.int .i64 a)) (by simp [go_sem])
      have A1 := cell_next hb (b := w.heap.size) (o := 1) (by simp <;> omega) (v := some (.int .i64 b)) (by simp [go_sem])
      have nA : w.heap.size < W1.heap.size := by have := hb.size; simp at this; omega
      have r0 := cell_next hb (b := w.heap.size + 1) (o := 0) (by simp <;> omega) (v := some (.int .i64 0)) (by simp [go_sem])
      have fr0 := frozen_next hb (b := w.heap.size + 1) (o := 0) (by simp <;> omega) (v := false) (by simp [go_sem])
      have r1 := cell_next hb (b := w.heap.size + 1) (o := 1) (by simp <;> omega) (v := some (.int .i64 0)) (by simp [go_sem])
      have fr1 := frozen_next hb (b := w.heap.size + 1) (o := 1) (by simp <;> omega) (v := false) (by simp [go_sem])
      have nr : w.heap.size + 1 < W1.heap.size := by have := hb.size; simp at this; omega
      have hB := (below2 hb)
      clear hb
      go_wp2_with fail
      refine (c2.out _).mono ?_
      rintro e w' ⟨rfl, rfl⟩
      go_wp2_with fail
      refine bodyPost_ret (v := .tuple #[.agg #[.int .i64 0, .int .i64 0], .int .i64 3]) (by simp [results, Try.results37, go_sem, r0, r1, fr0, fr1]) rfl ⟨by rw [EL.out, EH.out, EE.out], ?_⟩
      exact ((hB.setCell (p := ⟨w.heap.size + 1, 0, none⟩) (by simp <;> omega) _).setCell (p := ⟨w.heap.size + 1, 1, none⟩) (by simp <;> omega) _)
    · simp only [if_true] at EL EH EE
      have c5 := Lib.hid (c3.out rfl rfl)
      clear c3
      go_enter Try.func37, Try.ntmps37
      go_wp2_with fail
      refine (c1.out _).mono ?_
      rintro e W1 ⟨rfl, hb⟩
      have A0 := cell_next hb (b := w.heap.size) (o := 0) (by simp <;> omega) (v := some (.int .i64 a)) (by simp [go_sem])
      have A1 := cell_next hb (b := w.heap.size) (o := 1) (by simp <;> omega) (v := some (.int .i64 b)) (by simp [go_sem])
      have nA : w.heap.size < W1.heap.size := by have := hb.size; simp at this; omega
      have r0 := cell_next hb (b := w.heap.size + 1) (o := 0) (by simp <;> omega) (v := some (.int .i64 0)) (by simp [go_sem])
      have fr0 := frozen_next hb (b := w.heap.size + 1) (o := 0) (by simp <;> omega) (v := false) (by simp [go_sem])
      have r1 := cell_next hb (b := w.heap.size + 1) (o := 1) (by simp <;> omega) (v := some (.int .i64 0)) (by simp [go_sem])
      have fr1 := frozen_next hb (b := w.heap.size + 1) (o := 1) (by simp <;> omega) (v := false) (by simp [go_sem])
      have nr : w.heap.size + 1 < W1.heap.size := by have := hb.size; simp at this; omega
      have hB := (below2 hb)
      clear hb
      go_wp2_with fail
      refine (c2.out _).mono ?_
      rintro e w' ⟨rfl, rfl⟩
      go_wp2_with fail
      refine (quotientOf3 n a b _ _ (by simp) (by simp) (by simp) (by simp)).mono ?_
      rintro e W2 ⟨rfl, hb⟩
      replace A0 := cell_next (below1 hb) nA A0
      replace A1 := cell_next (below1 hb) nA A1
      replace nA := Nat.lt_of_lt_of_le nA (below1 hb).size
      replace r0 := cell_next (below1 hb) nr r0
      replace fr0 := frozen_next (below1 hb) nr fr0
      replace r1 := cell_next (below1 hb) nr r1
      replace fr1 := frozen_next (below1 hb) nr fr1
      replace nr := Nat.lt_of_lt_of_le nr (below1 hb).size
      replace hB := hB.trans ((below1 hb).mono hB.size)
      clear hb
      generalize W1.heap.size = q2 at *
      go_wp2_with fail
      refine (c5.out _).mono ?_
      rintro e W3 ⟨rfl, hb⟩
      replace A0 := cell_next hb nA A0
      replace A1 := cell_next hb nA A1
      replace nA := Nat.lt_of_lt_of_le nA hb.size
      replace r0 := cell_next hb nr r0
      replace fr0 := frozen_next hb nr fr0
      replace r1 := cell_next hb nr r1
      replace fr1 := frozen_next hb nr fr1
      replace nr := Nat.lt_of_lt_of_le nr hb.size
      replace hB := hB.trans (hb.mono hB.size)
      clear hb
      go_wp2_with fail
      refine (c4.out _).mono ?_
      rintro e W4 ⟨rfl, hb⟩
      replace A0 := cell_next hb nA A0
      replace A1 := cell_next hb nA A1
      replace nA := Nat.lt_of_lt_of_le nA hb.size
      replace r0 := cell_next hb nr r0
      replace fr0 := frozen_next hb nr fr0
      replace r1 := cell_next hb nr r1
      replace fr1 := frozen_next hb nr fr1
      replace nr := Nat.lt_of_lt_of_le nr hb.size
      replace hB := hB.trans (hb.mono hB.size)
      clear hb
      go_wp2_with fail
      refine bodyPost_ret (v := .tuple #[.agg #[.int .i64 fl, .int .i64 fh], .int .i64 fe]) (by simp [results, Try.results37, go_sem, r0, r1, fr0, fr1]) rfl ⟨by rw [EL.out, EH.out, EE.out], ?_⟩
      exact ((hB.setCell (p := ⟨w.heap.size + 1, 0, none⟩) (by simp <;> omega) _).setCell (p := ⟨w.heap.size + 1, 1, none⟩) (by simp <;> omega) _)
end Go.Proofs.Ytiibbnbknmeplaa
