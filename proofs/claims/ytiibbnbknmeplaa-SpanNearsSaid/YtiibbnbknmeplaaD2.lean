/- Contracts: the ranges of differences, products and quotients, errors too. -/
import Derived.Test.YtiibbnbknmeplaaD1
namespace Go.Proofs.Ytiibbnbknmeplaa
open Go.RowKit Go.Lib Go.Shelf
set_option linter.unusedVariables false
set_option linter.unusedSimpArgs false
attribute [local go_sem ↓] Go.wp_at_zero Go.wp_at_succ

theorem vrB_of' {lo hi : Int} (h : vrB lo hi = true) : -1000000000000000 ≤ lo ∧ lo ≤ hi ∧ hi ≤ 1000000000000000 := by simp [vrB] at h; omega
def lsL (a1 a2 b1 b2 : Int) : Int := if vrB a1 a2 && vrB b1 b2 then fitL (a1 - b2) (a2 - b1) else 0
def lsH (a1 a2 b1 b2 : Int) : Int := if vrB a1 a2 && vrB b1 b2 then fitH (a1 - b2) (a2 - b1) else 0
def lsE (a1 a2 b1 b2 : Int) : Int := if vrB a1 a2 && vrB b1 b2 then fitE (a1 - b2) (a2 - b1) else 2
/-- all products, and all quotients, of the ends -/
def timesP (a1 a2 b1 b2 : Int) : Int × Int := [arP a1 b2 1, arP a2 b1 1, arP a2 b2 1].foldl hullJ (arP a1 b1 1)
def overP (a1 a2 b1 b2 : Int) : Int × Int := [arP a1 1 b2, arP a2 1 b1, arP a2 1 b2].foldl hullJ (arP a1 1 b1)
def tmL (a1 a2 b1 b2 : Int) : Int := if vrB a1 a2 && vrB b1 b2 then fitL (timesP a1 a2 b1 b2).1 (timesP a1 a2 b1 b2).2 else 0
def tmH (a1 a2 b1 b2 : Int) : Int := if vrB a1 a2 && vrB b1 b2 then fitH (timesP a1 a2 b1 b2).1 (timesP a1 a2 b1 b2).2 else 0
def tmE (a1 a2 b1 b2 : Int) : Int := if vrB a1 a2 && vrB b1 b2 then fitE (timesP a1 a2 b1 b2).1 (timesP a1 a2 b1 b2).2 else 2
def ovL (a1 a2 b1 b2 : Int) : Int := if vrB a1 a2 && vrB b1 b2 then (if b1 ≤ 0 ∧ 0 ≤ b2 then 0 else fitL (overP a1 a2 b1 b2).1 (overP a1 a2 b1 b2).2) else 0
def ovH (a1 a2 b1 b2 : Int) : Int := if vrB a1 a2 && vrB b1 b2 then (if b1 ≤ 0 ∧ 0 ≤ b2 then 0 else fitH (overP a1 a2 b1 b2).1 (overP a1 a2 b1 b2).2) else 0
def ovE (a1 a2 b1 b2 : Int) : Int := if vrB a1 a2 && vrB b1 b2 then (if b1 ≤ 0 ∧ 0 ≤ b2 then 3 else fitE (overP a1 a2 b1 b2).1 (overP a1 a2 b1 b2).2) else 2

set_option maxRecDepth 20000 in
set_option maxHeartbeats 1000000 in
theorem less_any (a1 a2 b1 b2 : Int) (w : World) :
    Calls Try.prog 25 #[.agg #[.int .i64 a1, .int .i64 a2], .agg #[.int .i64 b1, .int .i64 b2]] w fun e w' => e = .returned (.tuple #[.agg #[.int .i64 (lsL a1 a2 b1 b2), .int .i64 (lsH a1 a2 b1 b2)], .int .i64 (lsE a1 a2 b1 b2)]) ∧ Below w.heap.size w w' := by
  have c1 := Lib.hid (validRange_any a1 a2)
  have c2 := Lib.hid (validRange_any b1 b2)
  by_cases ha : vrB a1 a2 = true
  · by_cases hb : vrB b1 b2 = true
    · skip
      have h0 : (vrB a1 a2 && vrB b1 b2) = true := by rw [ha, hb]; rfl
      have va := vrB_of' ha
      have vb := vrB_of' hb
      rw [ha] at c1
      rw [hb] at c2
      clear ha hb
      have E : Hid (lsE a1 a2 b1 b2 = fitE (a1 - b2) (a2 - b1)) := Lib.hid (by unfold lsE; rw [h0]; rfl)
      have E1 : Hid (lsL a1 a2 b1 b2 = fitL (a1 - b2) (a2 - b1)) := Lib.hid (by unfold lsL; rw [h0]; rfl)
      have E2 : Hid (lsH a1 a2 b1 b2 = fitH (a1 - b2) (a2 - b1)) := Lib.hid (by unfold lsH; rw [h0]; rfl)
      have c3 := Lib.hid (within_any (a1 - b2) (a2 - b1))
      obtain ⟨va1, va2, va3⟩ := va
      obtain ⟨vb1, vb2, vb3⟩ := vb
      generalize fitE (a1 - b2) (a2 - b1) = re at *
      generalize fitL (a1 - b2) (a2 - b1) = rl at *
      generalize fitH (a1 - b2) (a2 - b1) = rh at *
      clear h0
      go_enter Try.func25, Try.ntmps25
      go_wp2_with fail
      refine (c1.out _).mono ?_
      rintro e w1 ⟨rfl, hb⟩
      have a0 := cell_next hb (b := w.heap.size) (o := 0) (by simp <;> omega) (v := some (.int .i64 a1)) (by simp [go_sem])
      have a0' := cell_next hb (b := w.heap.size) (o := 1) (by simp <;> omega) (v := some (.int .i64 a2)) (by simp [go_sem])
      have x0 := cell_next hb (b := w.heap.size + 1) (o := 0) (by simp <;> omega) (v := some (.int .i64 b1)) (by simp [go_sem])
      have x1 := cell_next hb (b := w.heap.size + 1) (o := 1) (by simp <;> omega) (v := some (.int .i64 b2)) (by simp [go_sem])
      have r0 := cell_next hb (b := w.heap.size + 1 + 1) (o := 0) (by simp <;> omega) (v := some (.int .i64 0)) (by simp [go_sem])
      have r1 := cell_next hb (b := w.heap.size + 1 + 1) (o := 1) (by simp <;> omega) (v := some (.int .i64 0)) (by simp [go_sem])
      have f0 := frozen_next hb (b := w.heap.size + 1 + 1) (o := 0) (by simp <;> omega) (v := false) (by simp [go_sem])
      have f1 := frozen_next hb (b := w.heap.size + 1 + 1) (o := 1) (by simp <;> omega) (v := false) (by simp [go_sem])
      have hB := below3 hb
      have nz : w.heap.size + 1 + 1 < w1.heap.size := by have := hb.size; simp at this; omega
      clear hb
      go_wp2_with fail
      refine (c2.out _).mono ?_
      rintro e w2 ⟨rfl, hb⟩
      have nz0 : w.heap.size < w1.heap.size := by omega
      have nz1 : w.heap.size + 1 < w1.heap.size := by omega
      replace a0 := cell_next hb nz0 a0
      replace a0' := cell_next hb nz0 a0'
      replace x0 := cell_next hb nz1 x0
      replace x1 := cell_next hb nz1 x1
      replace r0 := cell_next hb nz r0
      replace r1 := cell_next hb nz r1
      replace f0 := frozen_next hb nz f0
      replace f1 := frozen_next hb nz f1
      replace nz := Nat.lt_of_lt_of_le nz hb.size
      replace hB := hB.trans (hb.mono hB.size)
      clear hb nz0 nz1
      go_wp2_with fail
      refine (c3.out _).mono ?_
      rintro e w3 ⟨rfl, hb⟩
      replace r0 := cell_next hb nz r0
      replace r1 := cell_next hb nz r1
      replace f0 := frozen_next hb nz f0
      replace f1 := frozen_next hb nz f1
      replace nz := Nat.lt_of_lt_of_le nz hb.size
      replace hB := hB.trans (hb.mono hB.size)
      clear hb
      go_wp2_with fail
      refine bodyPost_ret (v := .tuple #[.agg #[.int .i64 rl, .int .i64 rh], .int .i64 re]) (by simp [results, Try.results25, go_sem, r0, r1, f0, f1]) rfl ⟨by rw [E.out, E1.out, E2.out], ?_⟩
      exact (hB.setCell (p := ⟨w.heap.size + 1 + 1, 0, none⟩) (Nat.le_succ_of_le (Nat.le_succ _)) _).setCell (p := ⟨w.heap.size + 1 + 1, 1, none⟩) (Nat.le_succ_of_le (Nat.le_succ _)) _

    · have hbf : vrB b1 b2 = false := by simpa using hb
      have h0 : (vrB a1 a2 && vrB b1 b2) = false := by rw [hbf, Bool.and_false]
      have E : Hid (lsE a1 a2 b1 b2 = 2) := Lib.hid (by unfold lsE; rw [h0]; rfl)
      have E1 : Hid (lsL a1 a2 b1 b2 = 0) := Lib.hid (by unfold lsL; rw [h0]; rfl)
      have E2 : Hid (lsH a1 a2 b1 b2 = 0) := Lib.hid (by unfold lsH; rw [h0]; rfl)
      rw [ha] at c1
      rw [hbf] at c2
      clear ha hb hbf h0
      go_enter Try.func25, Try.ntmps25
      go_wp2_with fail
      refine (c1.out _).mono ?_
      rintro e w1 ⟨rfl, hb⟩
      have a0 := cell_next hb (b := w.heap.size) (o := 0) (by simp <;> omega) (v := some (.int .i64 a1)) (by simp [go_sem])
      have a0' := cell_next hb (b := w.heap.size) (o := 1) (by simp <;> omega) (v := some (.int .i64 a2)) (by simp [go_sem])
      have x0 := cell_next hb (b := w.heap.size + 1) (o := 0) (by simp <;> omega) (v := some (.int .i64 b1)) (by simp [go_sem])
      have x1 := cell_next hb (b := w.heap.size + 1) (o := 1) (by simp <;> omega) (v := some (.int .i64 b2)) (by simp [go_sem])
      have r0 := cell_next hb (b := w.heap.size + 1 + 1) (o := 0) (by simp <;> omega) (v := some (.int .i64 0)) (by simp [go_sem])
      have r1 := cell_next hb (b := w.heap.size + 1 + 1) (o := 1) (by simp <;> omega) (v := some (.int .i64 0)) (by simp [go_sem])
      have f0 := frozen_next hb (b := w.heap.size + 1 + 1) (o := 0) (by simp <;> omega) (v := false) (by simp [go_sem])
      have f1 := frozen_next hb (b := w.heap.size + 1 + 1) (o := 1) (by simp <;> omega) (v := false) (by simp [go_sem])
      have hB := below3 hb
      have nz : w.heap.size + 1 + 1 < w1.heap.size := by have := hb.size; simp at this; omega
      clear hb
      go_wp2_with fail
      refine (c2.out _).mono ?_
      rintro e w2 ⟨rfl, hb⟩
      have nz0 : w.heap.size < w1.heap.size := by omega
      have nz1 : w.heap.size + 1 < w1.heap.size := by omega
      replace a0 := cell_next hb nz0 a0
      replace a0' := cell_next hb nz0 a0'
      replace x0 := cell_next hb nz1 x0
      replace x1 := cell_next hb nz1 x1
      replace r0 := cell_next hb nz r0
      replace r1 := cell_next hb nz r1
      replace f0 := frozen_next hb nz f0
      replace f1 := frozen_next hb nz f1
      replace nz := Nat.lt_of_lt_of_le nz hb.size
      replace hB := hB.trans (hb.mono hB.size)
      clear hb nz0 nz1
      go_wp2_with fail
      refine bodyPost_ret (v := .tuple #[.agg #[.int .i64 0, .int .i64 0], .int .i64 2]) (by simp [results, Try.results25, go_sem, r0, r1, f0, f1]) rfl ⟨by rw [E.out, E1.out, E2.out], ?_⟩
      exact (hB.setCell (p := ⟨w.heap.size + 1 + 1, 0, none⟩) (Nat.le_succ_of_le (Nat.le_succ _)) _).setCell (p := ⟨w.heap.size + 1 + 1, 1, none⟩) (Nat.le_succ_of_le (Nat.le_succ _)) _

  · have haf : vrB a1 a2 = false := by simpa using ha
    have h0 : (vrB a1 a2 && vrB b1 b2) = false := by rw [haf, Bool.false_and]
    have E : Hid (lsE a1 a2 b1 b2 = 2) := Lib.hid (by unfold lsE; rw [h0]; rfl)
    have E1 : Hid (lsL a1 a2 b1 b2 = 0) := Lib.hid (by unfold lsL; rw [h0]; rfl)
    have E2 : Hid (lsH a1 a2 b1 b2 = 0) := Lib.hid (by unfold lsH; rw [h0]; rfl)
    rw [haf] at c1
    clear ha haf h0
    go_enter Try.func25, Try.ntmps25
    go_wp2_with fail
    refine (c1.out _).mono ?_
    rintro e w1 ⟨rfl, hb⟩
    have a0 := cell_next hb (b := w.heap.size) (o := 0) (by simp <;> omega) (v := some (.int .i64 a1)) (by simp [go_sem])
    have a0' := cell_next hb (b := w.heap.size) (o := 1) (by simp <;> omega) (v := some (.int .i64 a2)) (by simp [go_sem])
    have x0 := cell_next hb (b := w.heap.size + 1) (o := 0) (by simp <;> omega) (v := some (.int .i64 b1)) (by simp [go_sem])
    have x1 := cell_next hb (b := w.heap.size + 1) (o := 1) (by simp <;> omega) (v := some (.int .i64 b2)) (by simp [go_sem])
    have r0 := cell_next hb (b := w.heap.size + 1 + 1) (o := 0) (by simp <;> omega) (v := some (.int .i64 0)) (by simp [go_sem])
    have r1 := cell_next hb (b := w.heap.size + 1 + 1) (o := 1) (by simp <;> omega) (v := some (.int .i64 0)) (by simp [go_sem])
    have f0 := frozen_next hb (b := w.heap.size + 1 + 1) (o := 0) (by simp <;> omega) (v := false) (by simp [go_sem])
    have f1 := frozen_next hb (b := w.heap.size + 1 + 1) (o := 1) (by simp <;> omega) (v := false) (by simp [go_sem])
    have hB := below3 hb
    have nz : w.heap.size + 1 + 1 < w1.heap.size := by have := hb.size; simp at this; omega
    clear hb
    go_wp2_with fail
    refine bodyPost_ret (v := .tuple #[.agg #[.int .i64 0, .int .i64 0], .int .i64 2]) (by simp [results, Try.results25, go_sem, r0, r1, f0, f1]) rfl ⟨by rw [E.out, E1.out, E2.out], ?_⟩
    exact (hB.setCell (p := ⟨w.heap.size + 1 + 1, 0, none⟩) (Nat.le_succ_of_le (Nat.le_succ _)) _).setCell (p := ⟨w.heap.size + 1 + 1, 1, none⟩) (Nat.le_succ_of_le (Nat.le_succ _)) _

set_option maxRecDepth 20000 in
set_option maxHeartbeats 1000000 in
theorem times_any (a1 a2 b1 b2 : Int) (w : World) :
    Calls Try.prog 31 #[.agg #[.int .i64 a1, .int .i64 a2], .agg #[.int .i64 b1, .int .i64 b2]] w fun e w' => e = .returned (.tuple #[.agg #[.int .i64 (tmL a1 a2 b1 b2), .int .i64 (tmH a1 a2 b1 b2)], .int .i64 (tmE a1 a2 b1 b2)]) ∧ Below w.heap.size w w' := by
  have c1 := Lib.hid (validRange_any a1 a2)
  have c2 := Lib.hid (validRange_any b1 b2)
  by_cases ha : vrB a1 a2 = true
  · by_cases hb : vrB b1 b2 = true
    · skip
      have h0 : (vrB a1 a2 && vrB b1 b2) = true := by rw [ha, hb]; rfl
      have va := vrB_of' ha
      have vb := vrB_of' hb
      rw [ha] at c1
      rw [hb] at c2
      clear ha hb
      have E : Hid (tmE a1 a2 b1 b2 = fitE (timesP a1 a2 b1 b2).1 (timesP a1 a2 b1 b2).2) := Lib.hid (by unfold tmE; rw [h0]; rfl)
      have E1 : Hid (tmL a1 a2 b1 b2 = fitL (timesP a1 a2 b1 b2).1 (timesP a1 a2 b1 b2).2) := Lib.hid (by unfold tmL; rw [h0]; rfl)
      have E2 : Hid (tmH a1 a2 b1 b2 = fitH (timesP a1 a2 b1 b2).1 (timesP a1 a2 b1 b2).2) := Lib.hid (by unfold tmH; rw [h0]; rfl)
      obtain ⟨va1, va2, va3⟩ := va
      obtain ⟨vb1, vb2, vb3⟩ := vb
      have i1 : I64 a1 := ⟨by omega, by omega⟩
      have i2 : I64 a2 := ⟨by omega, by omega⟩
      have i3 : I64 b1 := ⟨by omega, by omega⟩
      have i4 : I64 b2 := ⟨by omega, by omega⟩
      have c4 : Hid (∀ w : World, Calls Try.prog 102 #[.agg #[.int .i64 a1, .int .i64 a2], .agg #[.int .i64 b1, .int .i64 b2], .func (Fn.func 103) #[] #[]] w fun e w' => e = .returned (.agg #[.int .i64 (timesP a1 a2 b1 b2).1, .int .i64 (timesP a1 a2 b1 b2).2]) ∧ Below w.heap.size w w') :=
        Lib.hid (corners_any 103 enters_times1 a1 a2 b1 b2 _ _ _ _ (times1_any a1 b1 i1 i3) (times1_any a1 b2 i1 i4) (times1_any a2 b1 i2 i3) (times1_any a2 b2 i2 i4))
      generalize timesP a1 a2 b1 b2 = p at *
      have c3 := Lib.hid (within_any p.1 p.2)
      generalize fitE p.1 p.2 = re at *
      generalize fitL p.1 p.2 = rl at *
      generalize fitH p.1 p.2 = rh at *
      clear h0 i1 i2 i3 i4
      go_enter Try.func31, Try.ntmps31
      go_wp2_with fail
      refine (c1.out _).mono ?_
      rintro e w1 ⟨rfl, hb⟩
      have a0 := cell_next hb (b := w.heap.size) (o := 0) (by simp <;> omega) (v := some (.int .i64 a1)) (by simp [go_sem])
      have a0' := cell_next hb (b := w.heap.size) (o := 1) (by simp <;> omega) (v := some (.int .i64 a2)) (by simp [go_sem])
      have x0 := cell_next hb (b := w.heap.size + 1) (o := 0) (by simp <;> omega) (v := some (.int .i64 b1)) (by simp [go_sem])
      have x1 := cell_next hb (b := w.heap.size + 1) (o := 1) (by simp <;> omega) (v := some (.int .i64 b2)) (by simp [go_sem])
      have r0 := cell_next hb (b := w.heap.size + 1 + 1) (o := 0) (by simp <;> omega) (v := some (.int .i64 0)) (by simp [go_sem])
      have r1 := cell_next hb (b := w.heap.size + 1 + 1) (o := 1) (by simp <;> omega) (v := some (.int .i64 0)) (by simp [go_sem])
      have f0 := frozen_next hb (b := w.heap.size + 1 + 1) (o := 0) (by simp <;> omega) (v := false) (by simp [go_sem])
      have f1 := frozen_next hb (b := w.heap.size + 1 + 1) (o := 1) (by simp <;> omega) (v := false) (by simp [go_sem])
      have hB := below3 hb
      have nz : w.heap.size + 1 + 1 < w1.heap.size := by have := hb.size; simp at this; omega
      clear hb
      go_wp2_with fail
      refine (c2.out _).mono ?_
      rintro e w2 ⟨rfl, hb⟩
      have nz0 : w.heap.size < w1.heap.size := by omega
      have nz1 : w.heap.size + 1 < w1.heap.size := by omega
      replace a0 := cell_next hb nz0 a0
      replace a0' := cell_next hb nz0 a0'
      replace x0 := cell_next hb nz1 x0
      replace x1 := cell_next hb nz1 x1
      replace r0 := cell_next hb nz r0
      replace r1 := cell_next hb nz r1
      replace f0 := frozen_next hb nz f0
      replace f1 := frozen_next hb nz f1
      replace nz := Nat.lt_of_lt_of_le nz hb.size
      replace hB := hB.trans (hb.mono hB.size)
      clear hb nz0 nz1
      go_wp2_with fail
      refine (c4.out _).mono ?_
      rintro e w3 ⟨rfl, hb⟩
      replace r0 := cell_next hb nz r0
      replace r1 := cell_next hb nz r1
      replace f0 := frozen_next hb nz f0
      replace f1 := frozen_next hb nz f1
      replace nz := Nat.lt_of_lt_of_le nz hb.size
      replace hB := hB.trans (hb.mono hB.size)
      clear hb
      go_wp2_with fail
      refine (c3.out _).mono ?_
      rintro e w4 ⟨rfl, hb⟩
      replace r0 := cell_next hb nz r0
      replace r1 := cell_next hb nz r1
      replace f0 := frozen_next hb nz f0
      replace f1 := frozen_next hb nz f1
      replace nz := Nat.lt_of_lt_of_le nz hb.size
      replace hB := hB.trans (hb.mono hB.size)
      clear hb
      go_wp2_with fail
      refine bodyPost_ret (v := .tuple #[.agg #[.int .i64 rl, .int .i64 rh], .int .i64 re]) (by simp [results, Try.results31, go_sem, r0, r1, f0, f1]) rfl ⟨by rw [E.out, E1.out, E2.out], ?_⟩
      exact (hB.setCell (p := ⟨w.heap.size + 1 + 1, 0, none⟩) (Nat.le_succ_of_le (Nat.le_succ _)) _).setCell (p := ⟨w.heap.size + 1 + 1, 1, none⟩) (Nat.le_succ_of_le (Nat.le_succ _)) _

    · have hbf : vrB b1 b2 = false := by simpa using hb
      have h0 : (vrB a1 a2 && vrB b1 b2) = false := by rw [hbf, Bool.and_false]
      have E : Hid (tmE a1 a2 b1 b2 = 2) := Lib.hid (by unfold tmE; rw [h0]; rfl)
      have E1 : Hid (tmL a1 a2 b1 b2 = 0) := Lib.hid (by unfold tmL; rw [h0]; rfl)
      have E2 : Hid (tmH a1 a2 b1 b2 = 0) := Lib.hid (by unfold tmH; rw [h0]; rfl)
      rw [ha] at c1
      rw [hbf] at c2
      clear ha hb hbf h0
      go_enter Try.func31, Try.ntmps31
      go_wp2_with fail
      refine (c1.out _).mono ?_
      rintro e w1 ⟨rfl, hb⟩
      have a0 := cell_next hb (b := w.heap.size) (o := 0) (by simp <;> omega) (v := some (.int .i64 a1)) (by simp [go_sem])
      have a0' := cell_next hb (b := w.heap.size) (o := 1) (by simp <;> omega) (v := some (.int .i64 a2)) (by simp [go_sem])
      have x0 := cell_next hb (b := w.heap.size + 1) (o := 0) (by simp <;> omega) (v := some (.int .i64 b1)) (by simp [go_sem])
      have x1 := cell_next hb (b := w.heap.size + 1) (o := 1) (by simp <;> omega) (v := some (.int .i64 b2)) (by simp [go_sem])
      have r0 := cell_next hb (b := w.heap.size + 1 + 1) (o := 0) (by simp <;> omega) (v := some (.int .i64 0)) (by simp [go_sem])
      have r1 := cell_next hb (b := w.heap.size + 1 + 1) (o := 1) (by simp <;> omega) (v := some (.int .i64 0)) (by simp [go_sem])
      have f0 := frozen_next hb (b := w.heap.size + 1 + 1) (o := 0) (by simp <;> omega) (v := false) (by simp [go_sem])
      have f1 := frozen_next hb (b := w.heap.size + 1 + 1) (o := 1) (by simp <;> omega) (v := false) (by simp [go_sem])
      have hB := below3 hb
      have nz : w.heap.size + 1 + 1 < w1.heap.size := by have := hb.size; simp at this; omega
      clear hb
      go_wp2_with fail
      refine (c2.out _).mono ?_
      rintro e w2 ⟨rfl, hb⟩
      have nz0 : w.heap.size < w1.heap.size := by omega
      have nz1 : w.heap.size + 1 < w1.heap.size := by omega
      replace a0 := cell_next hb nz0 a0
      replace a0' := cell_next hb nz0 a0'
      replace x0 := cell_next hb nz1 x0
      replace x1 := cell_next hb nz1 x1
      replace r0 := cell_next hb nz r0
      replace r1 := cell_next hb nz r1
      replace f0 := frozen_next hb nz f0
      replace f1 := frozen_next hb nz f1
      replace nz := Nat.lt_of_lt_of_le nz hb.size
      replace hB := hB.trans (hb.mono hB.size)
      clear hb nz0 nz1
      go_wp2_with fail
      refine bodyPost_ret (v := .tuple #[.agg #[.int .i64 0, .int .i64 0], .int .i64 2]) (by simp [results, Try.results31, go_sem, r0, r1, f0, f1]) rfl ⟨by rw [E.out, E1.out, E2.out], ?_⟩
      exact (hB.setCell (p := ⟨w.heap.size + 1 + 1, 0, none⟩) (Nat.le_succ_of_le (Nat.le_succ _)) _).setCell (p := ⟨w.heap.size + 1 + 1, 1, none⟩) (Nat.le_succ_of_le (Nat.le_succ _)) _

  · have haf : vrB a1 a2 = false := by simpa using ha
    have h0 : (vrB a1 a2 && vrB b1 b2) = false := by rw [haf, Bool.false_and]
    have E : Hid (tmE a1 a2 b1 b2 = 2) := Lib.hid (by unfold tmE; rw [h0]; rfl)
    have E1 : Hid (tmL a1 a2 b1 b2 = 0) := Lib.hid (by unfold tmL; rw [h0]; rfl)
    have E2 : Hid (tmH a1 a2 b1 b2 = 0) := Lib.hid (by unfold tmH; rw [h0]; rfl)
    rw [haf] at c1
    clear ha haf h0
    go_enter Try.func31, Try.ntmps31
    go_wp2_with fail
    refine (c1.out _).mono ?_
    rintro e w1 ⟨rfl, hb⟩
    have a0 := cell_next hb (b := w.heap.size) (o := 0) (by simp <;> omega) (v := some (.int .i64 a1)) (by simp [go_sem])
    have a0' := cell_next hb (b := w.heap.size) (o := 1) (by simp <;> omega) (v := some (.int .i64 a2)) (by simp [go_sem])
    have x0 := cell_next hb (b := w.heap.size + 1) (o := 0) (by simp <;> omega) (v := some (.int .i64 b1)) (by simp [go_sem])
    have x1 := cell_next hb (b := w.heap.size + 1) (o := 1) (by simp <;> omega) (v := some (.int .i64 b2)) (by simp [go_sem])
    have r0 := cell_next hb (b := w.heap.size + 1 + 1) (o := 0) (by simp <;> omega) (v := some (.int .i64 0)) (by simp [go_sem])
    have r1 := cell_next hb (b := w.heap.size + 1 + 1) (o := 1) (by simp <;> omega) (v := some (.int .i64 0)) (by simp [go_sem])
    have f0 := frozen_next hb (b := w.heap.size + 1 + 1) (o := 0) (by simp <;> omega) (v := false) (by simp [go_sem])
    have f1 := frozen_next hb (b := w.heap.size + 1 + 1) (o := 1) (by simp <;> omega) (v := false) (by simp [go_sem])
    have hB := below3 hb
    have nz : w.heap.size + 1 + 1 < w1.heap.size := by have := hb.size; simp at this; omega
    clear hb
    go_wp2_with fail
    refine bodyPost_ret (v := .tuple #[.agg #[.int .i64 0, .int .i64 0], .int .i64 2]) (by simp [results, Try.results31, go_sem, r0, r1, f0, f1]) rfl ⟨by rw [E.out, E1.out, E2.out], ?_⟩
    exact (hB.setCell (p := ⟨w.heap.size + 1 + 1, 0, none⟩) (Nat.le_succ_of_le (Nat.le_succ _)) _).setCell (p := ⟨w.heap.size + 1 + 1, 1, none⟩) (Nat.le_succ_of_le (Nat.le_succ _)) _

set_option maxRecDepth 20000 in
set_option maxHeartbeats 1000000 in
theorem over_any (a1 a2 b1 b2 : Int) (w : World) :
    Calls Try.prog 33 #[.agg #[.int .i64 a1, .int .i64 a2], .agg #[.int .i64 b1, .int .i64 b2]] w fun e w' => e = .returned (.tuple #[.agg #[.int .i64 (ovL a1 a2 b1 b2), .int .i64 (ovH a1 a2 b1 b2)], .int .i64 (ovE a1 a2 b1 b2)]) ∧ Below w.heap.size w w' := by
  have c1 := Lib.hid (validRange_any a1 a2)
  have c2 := Lib.hid (validRange_any b1 b2)
  by_cases ha : vrB a1 a2 = true
  · by_cases hb : vrB b1 b2 = true
    · skip
      have h0 : (vrB a1 a2 && vrB b1 b2) = true := by rw [ha, hb]; rfl
      have va := vrB_of' ha
      have vb := vrB_of' hb
      rw [ha] at c1
      rw [hb] at c2
      clear ha hb
      obtain ⟨va1, va2, va3⟩ := va
      obtain ⟨vb1, vb2, vb3⟩ := vb
      by_cases hz : b1 ≤ 0 ∧ 0 ≤ b2
      · have E : Hid (ovE a1 a2 b1 b2 = 3) := Lib.hid (by unfold ovE; rw [h0, if_pos rfl, if_pos hz])
        have E1 : Hid (ovL a1 a2 b1 b2 = 0) := Lib.hid (by unfold ovL; rw [h0, if_pos rfl, if_pos hz])
        have E2 : Hid (ovH a1 a2 b1 b2 = 0) := Lib.hid (by unfold ovH; rw [h0, if_pos rfl, if_pos hz])
        obtain ⟨z1, z2⟩ := hz
        have d1 : decide (b1 ≤ 0) = true := by simpa using z1
        clear h0
        go_enter Try.func33, Try.ntmps33
        go_wp2_with fail
        refine (c1.out _).mono ?_
        rintro e w1 ⟨rfl, hb⟩
        have a0 := cell_next hb (b := w.heap.size) (o := 0) (by simp <;> omega) (v := some (.int .i64 a1)) (by simp [go_sem])
        have a0' := cell_next hb (b := w.heap.size) (o := 1) (by simp <;> omega) (v := some (.int .i64 a2)) (by simp [go_sem])
        have x0 := cell_next hb (b := w.heap.size + 1) (o := 0) (by simp <;> omega) (v := some (.int .i64 b1)) (by simp [go_sem])
        have x1 := cell_next hb (b := w.heap.size + 1) (o := 1) (by simp <;> omega) (v := some (.int .i64 b2)) (by simp [go_sem])
        have r0 := cell_next hb (b := w.heap.size + 1 + 1) (o := 0) (by simp <;> omega) (v := some (.int .i64 0)) (by simp [go_sem])
        have r1 := cell_next hb (b := w.heap.size + 1 + 1) (o := 1) (by simp <;> omega) (v := some (.int .i64 0)) (by simp [go_sem])
        have f0 := frozen_next hb (b := w.heap.size + 1 + 1) (o := 0) (by simp <;> omega) (v := false) (by simp [go_sem])
        have f1 := frozen_next hb (b := w.heap.size + 1 + 1) (o := 1) (by simp <;> omega) (v := false) (by simp [go_sem])
        have hB := below3 hb
        have nz : w.heap.size + 1 + 1 < w1.heap.size := by have := hb.size; simp at this; omega
        clear hb
        go_wp2_with fail
        refine (c2.out _).mono ?_
        rintro e w2 ⟨rfl, hb⟩
        have nz0 : w.heap.size < w1.heap.size := by omega
        have nz1 : w.heap.size + 1 < w1.heap.size := by omega
        replace a0 := cell_next hb nz0 a0
        replace a0' := cell_next hb nz0 a0'
        replace x0 := cell_next hb nz1 x0
        replace x1 := cell_next hb nz1 x1
        replace r0 := cell_next hb nz r0
        replace r1 := cell_next hb nz r1
        replace f0 := frozen_next hb nz f0
        replace f1 := frozen_next hb nz f1
        replace nz := Nat.lt_of_lt_of_le nz hb.size
        replace hB := hB.trans (hb.mono hB.size)
        clear hb nz0 nz1
        go_wp2_with fail
        refine bodyPost_ret (v := .tuple #[.agg #[.int .i64 0, .int .i64 0], .int .i64 3]) (by simp [results, Try.results33, go_sem, r0, r1, f0, f1]) rfl ⟨by rw [E.out, E1.out, E2.out], ?_⟩
        exact (hB.setCell (p := ⟨w.heap.size + 1 + 1, 0, none⟩) (Nat.le_succ_of_le (Nat.le_succ _)) _).setCell (p := ⟨w.heap.size + 1 + 1, 1, none⟩) (Nat.le_succ_of_le (Nat.le_succ _)) _
      · have E : Hid (ovE a1 a2 b1 b2 = fitE (overP a1 a2 b1 b2).1 (overP a1 a2 b1 b2).2) := Lib.hid (by unfold ovE; rw [h0, if_pos rfl, if_neg hz])
        have E1 : Hid (ovL a1 a2 b1 b2 = fitL (overP a1 a2 b1 b2).1 (overP a1 a2 b1 b2).2) := Lib.hid (by unfold ovL; rw [h0, if_pos rfl, if_neg hz])
        have E2 : Hid (ovH a1 a2 b1 b2 = fitH (overP a1 a2 b1 b2).1 (overP a1 a2 b1 b2).2) := Lib.hid (by unfold ovH; rw [h0, if_pos rfl, if_neg hz])
        have i1 : I64 a1 := ⟨by omega, by omega⟩
        have i2 : I64 a2 := ⟨by omega, by omega⟩
        have i3 : I64 b1 := ⟨by omega, by omega⟩
        have i4 : I64 b2 := ⟨by omega, by omega⟩
        have n3 : b1 ≠ 0 := by omega
        have n4 : b2 ≠ 0 := by omega
        have c4 : Hid (∀ w : World, Calls Try.prog 102 #[.agg #[.int .i64 a1, .int .i64 a2], .agg #[.int .i64 b1, .int .i64 b2], .func (Fn.func 105) #[] #[]] w fun e w' => e = .returned (.agg #[.int .i64 (overP a1 a2 b1 b2).1, .int .i64 (overP a1 a2 b1 b2).2]) ∧ Below w.heap.size w w') :=
          Lib.hid (corners_any 105 enters_over1 a1 a2 b1 b2 _ _ _ _ (over1_any a1 b1 i1 i3 n3) (over1_any a1 b2 i1 i4 n4) (over1_any a2 b1 i2 i3 n3) (over1_any a2 b2 i2 i4 n4))
        generalize overP a1 a2 b1 b2 = p at *
        have c3 := Lib.hid (within_any p.1 p.2)
        generalize fitE p.1 p.2 = re at *
        generalize fitL p.1 p.2 = rl at *
        generalize fitH p.1 p.2 = rh at *
        clear h0 i1 i2 i3 i4 n3 n4
        have hzz : ¬ b1 ≤ 0 ∨ (b1 ≤ 0 ∧ ¬ 0 ≤ b2) := by omega
        clear hz
        rcases hzz with hz1 | ⟨hz1, hz2⟩
        · have d1 : decide (b1 ≤ 0) = false := by simpa using hz1
          go_enter Try.func33, Try.ntmps33
          go_wp2_with fail
          refine (c1.out _).mono ?_
          rintro e w1 ⟨rfl, hb⟩
          have a0 := cell_next hb (b := w.heap.size) (o := 0) (by simp <;> omega) (v := some (.int .i64 a1)) (by simp [go_sem])
          have a0' := cell_next hb (b := w.heap.size) (o := 1) (by simp <;> omega) (v := some (.int .i64 a2)) (by simp [go_sem])
          have x0 := cell_next hb (b := w.heap.size + 1) (o := 0) (by simp <;> omega) (v := some (.int .i64 b1)) (by simp [go_sem])
          have x1 := cell_next hb (b := w.heap.size + 1) (o := 1) (by simp <;> omega) (v := some (.int .i64 b2)) (by simp [go_sem])
          have r0 := cell_next hb (b := w.heap.size + 1 + 1) (o := 0) (by simp <;> omega) (v := some (.int .i64 0)) (by simp [go_sem])
          have r1 := cell_next hb (b := w.heap.size + 1 + 1) (o := 1) (by simp <;> omega) (v := some (.int .i64 0)) (by simp [go_sem])
          have f0 := frozen_next hb (b := w.heap.size + 1 + 1) (o := 0) (by simp <;> omega) (v := false) (by simp [go_sem])
          have f1 := frozen_next hb (b := w.heap.size + 1 + 1) (o := 1) (by simp <;> omega) (v := false) (by simp [go_sem])
          have hB := below3 hb
          have nz : w.heap.size + 1 + 1 < w1.heap.size := by have := hb.size; simp at this; omega
          clear hb
          go_wp2_with fail
          refine (c2.out _).mono ?_
          rintro e w2 ⟨rfl, hb⟩
          have nz0 : w.heap.size < w1.heap.size := by omega
          have nz1 : w.heap.size + 1 < w1.heap.size := by omega
          replace a0 := cell_next hb nz0 a0
          replace a0' := cell_next hb nz0 a0'
          replace x0 := cell_next hb nz1 x0
          replace x1 := cell_next hb nz1 x1
          replace r0 := cell_next hb nz r0
          replace r1 := cell_next hb nz r1
          replace f0 := frozen_next hb nz f0
          replace f1 := frozen_next hb nz f1
          replace nz := Nat.lt_of_lt_of_le nz hb.size
          replace hB := hB.trans (hb.mono hB.size)
          clear hb nz0 nz1
          go_wp2_with fail
          refine (c4.out _).mono ?_
          rintro e w3 ⟨rfl, hb⟩
          replace r0 := cell_next hb nz r0
          replace r1 := cell_next hb nz r1
          replace f0 := frozen_next hb nz f0
          replace f1 := frozen_next hb nz f1
          replace nz := Nat.lt_of_lt_of_le nz hb.size
          replace hB := hB.trans (hb.mono hB.size)
          clear hb
          go_wp2_with fail
          refine (c3.out _).mono ?_
          rintro e w4 ⟨rfl, hb⟩
          replace r0 := cell_next hb nz r0
          replace r1 := cell_next hb nz r1
          replace f0 := frozen_next hb nz f0
          replace f1 := frozen_next hb nz f1
          replace nz := Nat.lt_of_lt_of_le nz hb.size
          replace hB := hB.trans (hb.mono hB.size)
          clear hb
          go_wp2_with fail
          refine bodyPost_ret (v := .tuple #[.agg #[.int .i64 rl, .int .i64 rh], .int .i64 re]) (by simp [results, Try.results33, go_sem, r0, r1, f0, f1]) rfl ⟨by rw [E.out, E1.out, E2.out], ?_⟩
          exact (hB.setCell (p := ⟨w.heap.size + 1 + 1, 0, none⟩) (Nat.le_succ_of_le (Nat.le_succ _)) _).setCell (p := ⟨w.heap.size + 1 + 1, 1, none⟩) (Nat.le_succ_of_le (Nat.le_succ _)) _
        · have d1 : decide (b1 ≤ 0) = true := by simpa using hz1
          have d2 : decide (0 ≤ b2) = false := by simpa using hz2
          go_enter Try.func33, Try.ntmps33
          go_wp2_with fail
          refine (c1.out _).mono ?_
          rintro e w1 ⟨rfl, hb⟩
          have a0 := cell_next hb (b := w.heap.size) (o := 0) (by simp <;> omega) (v := some (.int .i64 a1)) (by simp [go_sem])
          have a0' := cell_next hb (b := w.heap.size) (o := 1) (by simp <;> omega) (v := some (.int .i64 a2)) (by simp [go_sem])
          have x0 := cell_next hb (b := w.heap.size + 1) (o := 0) (by simp <;> omega) (v := some (.int .i64 b1)) (by simp [go_sem])
          have x1 := cell_next hb (b := w.heap.size + 1) (o := 1) (by simp <;> omega) (v := some (.int .i64 b2)) (by simp [go_sem])
          have r0 := cell_next hb (b := w.heap.size + 1 + 1) (o := 0) (by simp <;> omega) (v := some (.int .i64 0)) (by simp [go_sem])
          have r1 := cell_next hb (b := w.heap.size + 1 + 1) (o := 1) (by simp <;> omega) (v := some (.int .i64 0)) (by simp [go_sem])
          have f0 := frozen_next hb (b := w.heap.size + 1 + 1) (o := 0) (by simp <;> omega) (v := false) (by simp [go_sem])
          have f1 := frozen_next hb (b := w.heap.size + 1 + 1) (o := 1) (by simp <;> omega) (v := false) (by simp [go_sem])
          have hB := below3 hb
          have nz : w.heap.size + 1 + 1 < w1.heap.size := by have := hb.size; simp at this; omega
          clear hb
          go_wp2_with fail
          refine (c2.out _).mono ?_
          rintro e w2 ⟨rfl, hb⟩
          have nz0 : w.heap.size < w1.heap.size := by omega
          have nz1 : w.heap.size + 1 < w1.heap.size := by omega
          replace a0 := cell_next hb nz0 a0
          replace a0' := cell_next hb nz0 a0'
          replace x0 := cell_next hb nz1 x0
          replace x1 := cell_next hb nz1 x1
          replace r0 := cell_next hb nz r0
          replace r1 := cell_next hb nz r1
          replace f0 := frozen_next hb nz f0
          replace f1 := frozen_next hb nz f1
          replace nz := Nat.lt_of_lt_of_le nz hb.size
          replace hB := hB.trans (hb.mono hB.size)
          clear hb nz0 nz1
          go_wp2_with fail
          refine (c4.out _).mono ?_
          rintro e w3 ⟨rfl, hb⟩
          replace r0 := cell_next hb nz r0
          replace r1 := cell_next hb nz r1
          replace f0 := frozen_next hb nz f0
          replace f1 := frozen_next hb nz f1
          replace nz := Nat.lt_of_lt_of_le nz hb.size
          replace hB := hB.trans (hb.mono hB.size)
          clear hb
          go_wp2_with fail
          refine (c3.out _).mono ?_
          rintro e w4 ⟨rfl, hb⟩
          replace r0 := cell_next hb nz r0
          replace r1 := cell_next hb nz r1
          replace f0 := frozen_next hb nz f0
          replace f1 := frozen_next hb nz f1
          replace nz := Nat.lt_of_lt_of_le nz hb.size
          replace hB := hB.trans (hb.mono hB.size)
          clear hb
          go_wp2_with fail
          refine bodyPost_ret (v := .tuple #[.agg #[.int .i64 rl, .int .i64 rh], .int .i64 re]) (by simp [results, Try.results33, go_sem, r0, r1, f0, f1]) rfl ⟨by rw [E.out, E1.out, E2.out], ?_⟩
          exact (hB.setCell (p := ⟨w.heap.size + 1 + 1, 0, none⟩) (Nat.le_succ_of_le (Nat.le_succ _)) _).setCell (p := ⟨w.heap.size + 1 + 1, 1, none⟩) (Nat.le_succ_of_le (Nat.le_succ _)) _

    · have hbf : vrB b1 b2 = false := by simpa using hb
      have h0 : (vrB a1 a2 && vrB b1 b2) = false := by rw [hbf, Bool.and_false]
      have E : Hid (ovE a1 a2 b1 b2 = 2) := Lib.hid (by unfold ovE; rw [h0]; rfl)
      have E1 : Hid (ovL a1 a2 b1 b2 = 0) := Lib.hid (by unfold ovL; rw [h0]; rfl)
      have E2 : Hid (ovH a1 a2 b1 b2 = 0) := Lib.hid (by unfold ovH; rw [h0]; rfl)
      rw [ha] at c1
      rw [hbf] at c2
      clear ha hb hbf h0
      go_enter Try.func33, Try.ntmps33
      go_wp2_with fail
      refine (c1.out _).mono ?_
      rintro e w1 ⟨rfl, hb⟩
      have a0 := cell_next hb (b := w.heap.size) (o := 0) (by simp <;> omega) (v := some (.int .i64 a1)) (by simp [go_sem])
      have a0' := cell_next hb (b := w.heap.size) (o := 1) (by simp <;> omega) (v := some (.int .i64 a2)) (by simp [go_sem])
      have x0 := cell_next hb (b := w.heap.size + 1) (o := 0) (by simp <;> omega) (v := some (.int .i64 b1)) (by simp [go_sem])
      have x1 := cell_next hb (b := w.heap.size + 1) (o := 1) (by simp <;> omega) (v := some (.int .i64 b2)) (by simp [go_sem])
      have r0 := cell_next hb (b := w.heap.size + 1 + 1) (o := 0) (by simp <;> omega) (v := some (.int .i64 0)) (by simp [go_sem])
      have r1 := cell_next hb (b := w.heap.size + 1 + 1) (o := 1) (by simp <;> omega) (v := some (.int .i64 0)) (by simp [go_sem])
      have f0 := frozen_next hb (b := w.heap.size + 1 + 1) (o := 0) (by simp <;> omega) (v := false) (by simp [go_sem])
      have f1 := frozen_next hb (b := w.heap.size + 1 + 1) (o := 1) (by simp <;> omega) (v := false) (by simp [go_sem])
      have hB := below3 hb
      have nz : w.heap.size + 1 + 1 < w1.heap.size := by have := hb.size; simp at this; omega
      clear hb
      go_wp2_with fail
      refine (c2.out _).mono ?_
      rintro e w2 ⟨rfl, hb⟩
      have nz0 : w.heap.size < w1.heap.size := by omega
      have nz1 : w.heap.size + 1 < w1.heap.size := by omega
      replace a0 := cell_next hb nz0 a0
      replace a0' := cell_next hb nz0 a0'
      replace x0 := cell_next hb nz1 x0
      replace x1 := cell_next hb nz1 x1
      replace r0 := cell_next hb nz r0
      replace r1 := cell_next hb nz r1
      replace f0 := frozen_next hb nz f0
      replace f1 := frozen_next hb nz f1
      replace nz := Nat.lt_of_lt_of_le nz hb.size
      replace hB := hB.trans (hb.mono hB.size)
      clear hb nz0 nz1
      go_wp2_with fail
      refine bodyPost_ret (v := .tuple #[.agg #[.int .i64 0, .int .i64 0], .int .i64 2]) (by simp [results, Try.results33, go_sem, r0, r1, f0, f1]) rfl ⟨by rw [E.out, E1.out, E2.out], ?_⟩
      exact (hB.setCell (p := ⟨w.heap.size + 1 + 1, 0, none⟩) (Nat.le_succ_of_le (Nat.le_succ _)) _).setCell (p := ⟨w.heap.size + 1 + 1, 1, none⟩) (Nat.le_succ_of_le (Nat.le_succ _)) _

  · have haf : vrB a1 a2 = false := by simpa using ha
    have h0 : (vrB a1 a2 && vrB b1 b2) = false := by rw [haf, Bool.false_and]
    have E : Hid (ovE a1 a2 b1 b2 = 2) := Lib.hid (by unfold ovE; rw [h0]; rfl)
    have E1 : Hid (ovL a1 a2 b1 b2 = 0) := Lib.hid (by unfold ovL; rw [h0]; rfl)
    have E2 : Hid (ovH a1 a2 b1 b2 = 0) := Lib.hid (by unfold ovH; rw [h0]; rfl)
    rw [haf] at c1
    clear ha haf h0
    go_enter Try.func33, Try.ntmps33
    go_wp2_with fail
    refine (c1.out _).mono ?_
    rintro e w1 ⟨rfl, hb⟩
    have a0 := cell_next hb (b := w.heap.size) (o := 0) (by simp <;> omega) (v := some (.int .i64 a1)) (by simp [go_sem])
    have a0' := cell_next hb (b := w.heap.size) (o := 1) (by simp <;> omega) (v := some (.int .i64 a2)) (by simp [go_sem])
    have x0 := cell_next hb (b := w.heap.size + 1) (o := 0) (by simp <;> omega) (v := some (.int .i64 b1)) (by simp [go_sem])
    have x1 := cell_next hb (b := w.heap.size + 1) (o := 1) (by simp <;> omega) (v := some (.int .i64 b2)) (by simp [go_sem])
    have r0 := cell_next hb (b := w.heap.size + 1 + 1) (o := 0) (by simp <;> omega) (v := some (.int .i64 0)) (by simp [go_sem])
    have r1 := cell_next hb (b := w.heap.size + 1 + 1) (o := 1) (by simp <;> omega) (v := some (.int .i64 0)) (by simp [go_sem])
    have f0 := frozen_next hb (b := w.heap.size + 1 + 1) (o := 0) (by simp <;> omega) (v := false) (by simp [go_sem])
    have f1 := frozen_next hb (b := w.heap.size + 1 + 1) (o := 1) (by simp <;> omega) (v := false) (by simp [go_sem])
    have hB := below3 hb
    have nz : w.heap.size + 1 + 1 < w1.heap.size := by have := hb.size; simp at this; omega
    clear hb
    go_wp2_with fail
    refine bodyPost_ret (v := .tuple #[.agg #[.int .i64 0, .int .i64 0], .int .i64 2]) (by simp [results, Try.results33, go_sem, r0, r1, f0, f1]) rfl ⟨by rw [E.out, E1.out, E2.out], ?_⟩
    exact (hB.setCell (p := ⟨w.heap.size + 1 + 1, 0, none⟩) (Nat.le_succ_of_le (Nat.le_succ _)) _).setCell (p := ⟨w.heap.size + 1 + 1, 1, none⟩) (Nat.le_succ_of_le (Nat.le_succ _)) _

end Go.Proofs.Ytiibbnbknmeplaa
