/- Contracts: the reference's parts of ranges. -/
import Derived.Test.YtgakniehfnegiaaR4
namespace Go.Proofs.Ytgakniehfnegiaa
open Go.RowKit Go.Lib Go.Shelf
set_option linter.unusedVariables false
set_option linter.unusedSimpArgs false
attribute [local go_sem ↓] Go.wp_at_zero Go.wp_at_succ


set_option maxRecDepth 20000 in
set_option maxHeartbeats 6000000 in
theorem rScale_any (a1 a2 n d : Int) (w : World) :
    Calls Try.prog 30 #[.agg #[.int .i64 a1, .int .i64 a2], .int .i64 n, .int .i64 d] w fun e w' => e = .returned (.tuple #[.agg #[.int .i64 (scL a1 a2 n d), .int .i64 (scH a1 a2 n d)], .int .i64 (scE a1 a2 n d)]) ∧ Below w.heap.size w w' := by
  have c1 := Lib.hid (rRange_any a1 a2)
  have c2 := Lib.hid (rIn_any n (-1000000000) 1000000000)
  have c3 := Lib.hid (rIn_any d 1 1000000000)
  have hf : frB n d = ((decide (-1000000000 ≤ n) && decide (n ≤ 1000000000)) && (decide (1 ≤ d) && decide (d ≤ 1000000000))) := by simp [frB, Bool.and_assoc]
  obtain ⟨p, hp⟩ : ∃ p, (decide (-1000000000 ≤ n) && decide (n ≤ 1000000000)) = p := ⟨_, rfl⟩
  obtain ⟨q, hq⟩ : ∃ q, (decide (1 ≤ d) && decide (d ≤ 1000000000)) = q := ⟨_, rfl⟩
  rw [hp] at c2 hf
  rw [hq] at c3 hf
  by_cases ha : vrB a1 a2 = true
  · rw [ha] at c1
    cases p
    · rw [Bool.false_and] at hf
      have E : Hid (scE a1 a2 n d = 3) := Lib.hid (by unfold scE; rw [ha, hf]; try rfl)
      have E1 : Hid (scL a1 a2 n d = 0) := Lib.hid (by unfold scL; rw [ha, hf]; try rfl)
      have E2 : Hid (scH a1 a2 n d = 0) := Lib.hid (by unfold scH; rw [ha, hf]; try rfl)
      clear ha hf hp hq
      go_enter Try.func30, Try.ntmps30
      go_wp2_with fail
      refine (c1.out _).mono ?_
      rintro e w1 ⟨rfl, hb⟩
      have a0 := cell_next hb (b := w.heap.size) (o := 0) (by simp <;> omega) (v := some (.int .i64 a1)) (by simp [go_sem])
      have a0' := cell_next hb (b := w.heap.size) (o := 1) (by simp <;> omega) (v := some (.int .i64 a2)) (by simp [go_sem])
      have r0 := cell_next hb (b := w.heap.size + 1) (o := 0) (by simp <;> omega) (v := some (.int .i64 0)) (by simp [go_sem])
      have r1 := cell_next hb (b := w.heap.size + 1) (o := 1) (by simp <;> omega) (v := some (.int .i64 0)) (by simp [go_sem])
      have f0 := frozen_next hb (b := w.heap.size + 1) (o := 0) (by simp <;> omega) (v := false) (by simp [go_sem])
      have f1 := frozen_next hb (b := w.heap.size + 1) (o := 1) (by simp <;> omega) (v := false) (by simp [go_sem])
      have hB := below2 hb
      have nz : w.heap.size + 1 < w1.heap.size := by have := hb.size; simp at this; omega
      clear hb
      go_wp2_with fail
      refine (c2.out _).mono ?_
      rintro e w' ⟨rfl, rfl⟩
      go_wp2_with fail
      refine bodyPost_ret (v := .tuple #[.agg #[.int .i64 0, .int .i64 0], .int .i64 3]) (by simp [results, Try.results30, go_sem, r0, r1, f0, f1]) rfl ⟨by rw [E.out, E1.out, E2.out], ?_⟩
      exact (hB.setCell (p := ⟨w.heap.size + 1, 0, none⟩) (Nat.le_succ _) _).setCell (p := ⟨w.heap.size + 1, 1, none⟩) (Nat.le_succ _) _
    · cases q
      · rw [Bool.and_false] at hf
        have E : Hid (scE a1 a2 n d = 3) := Lib.hid (by unfold scE; rw [ha, hf]; try rfl)
        have E1 : Hid (scL a1 a2 n d = 0) := Lib.hid (by unfold scL; rw [ha, hf]; try rfl)
        have E2 : Hid (scH a1 a2 n d = 0) := Lib.hid (by unfold scH; rw [ha, hf]; try rfl)
        clear ha hf hp hq
        go_enter Try.func30, Try.ntmps30
        go_wp2_with fail
        refine (c1.out _).mono ?_
        rintro e w1 ⟨rfl, hb⟩
        have a0 := cell_next hb (b := w.heap.size) (o := 0) (by simp <;> omega) (v := some (.int .i64 a1)) (by simp [go_sem])
        have a0' := cell_next hb (b := w.heap.size) (o := 1) (by simp <;> omega) (v := some (.int .i64 a2)) (by simp [go_sem])
        have r0 := cell_next hb (b := w.heap.size + 1) (o := 0) (by simp <;> omega) (v := some (.int .i64 0)) (by simp [go_sem])
        have r1 := cell_next hb (b := w.heap.size + 1) (o := 1) (by simp <;> omega) (v := some (.int .i64 0)) (by simp [go_sem])
        have f0 := frozen_next hb (b := w.heap.size + 1) (o := 0) (by simp <;> omega) (v := false) (by simp [go_sem])
        have f1 := frozen_next hb (b := w.heap.size + 1) (o := 1) (by simp <;> omega) (v := false) (by simp [go_sem])
        have hB := below2 hb
        have nz : w.heap.size + 1 < w1.heap.size := by have := hb.size; simp at this; omega
        clear hb
        go_wp2_with fail
        refine (c2.out _).mono ?_
        rintro e w' ⟨rfl, rfl⟩
        go_wp2_with fail
        refine (c3.out _).mono ?_
        rintro e w' ⟨rfl, rfl⟩
        go_wp2_with fail
        refine bodyPost_ret (v := .tuple #[.agg #[.int .i64 0, .int .i64 0], .int .i64 3]) (by simp [results, Try.results30, go_sem, r0, r1, f0, f1]) rfl ⟨by rw [E.out, E1.out, E2.out], ?_⟩
        exact (hB.setCell (p := ⟨w.heap.size + 1, 0, none⟩) (Nat.le_succ _) _).setCell (p := ⟨w.heap.size + 1, 1, none⟩) (Nat.le_succ _) _
      · rw [Bool.and_self] at hf
        have hn : -1000000000 ≤ n ∧ n ≤ 1000000000 := by simpa using hp
        have hd : 1 ≤ d ∧ d ≤ 1000000000 := by simpa using hq
        have va := vrB_of' ha
        obtain ⟨g1, g2, g3, g4⟩ := scale_fit va hn hd
        have E : Hid (scE a1 a2 n d = fitE (min (sdL a1 n d) (sdL a2 n d)) (max (sdH a1 n d) (sdH a2 n d))) := Lib.hid (by unfold scE; rw [ha, hf]; exact g3)
        have E1 : Hid (scL a1 a2 n d = fitL (min (sdL a1 n d) (sdL a2 n d)) (max (sdH a1 n d) (sdH a2 n d))) := Lib.hid (by unfold scL; rw [ha, hf]; exact g1)
        have E2 : Hid (scH a1 a2 n d = fitH (min (sdL a1 n d) (sdL a2 n d)) (max (sdH a1 n d) (sdH a2 n d))) := Lib.hid (by unfold scH; rw [ha, hf]; exact g2)
        have c4 := Lib.hid (rScaled_any a1 n d (by omega) hn hd)
        have c5 := Lib.hid (rScaled_any a2 n d (by omega) hn hd)
        have c6 := Lib.hid (rFits_any _ _ g4)
        have M1 : ∀ tys ty w, (Builtin.min_ tys ty #[.int .i64 (sdL a1 n d), .int .i64 (sdL a2 n d)]).run Try.prog w = .ok (.int .i64 (min (sdL a1 n d) (sdL a2 n d))) w := fun tys ty w => rrun_min2 tys ty .i64 _ _ w
        have M2 : ∀ tys ty w, (Builtin.max_ tys ty #[.int .i64 (sdH a1 n d), .int .i64 (sdH a2 n d)]).run Try.prog w = .ok (.int .i64 (max (sdH a1 n d) (sdH a2 n d))) w := fun tys ty w => rrun_max2 tys ty .i64 _ _ w
        clear ha hf hp hq hn hd va g1 g2 g3 g4
        generalize min (sdL a1 n d) (sdL a2 n d) = lo at *
        generalize max (sdH a1 n d) (sdH a2 n d) = hi at *
        generalize fitE lo hi = re at *
        generalize fitL lo hi = rl at *
        generalize fitH lo hi = rh at *
        generalize sdL a1 n d = l1 at *
        generalize sdL a2 n d = l2 at *
        generalize sdH a1 n d = h1 at *
        generalize sdH a2 n d = h2 at *
        go_enter Try.func30, Try.ntmps30
        go_wp2_with fail
        refine (c1.out _).mono ?_
        rintro e w1 ⟨rfl, hb⟩
        have a0 := cell_next hb (b := w.heap.size) (o := 0) (by simp <;> omega) (v := some (.int .i64 a1)) (by simp [go_sem])
        have a0' := cell_next hb (b := w.heap.size) (o := 1) (by simp <;> omega) (v := some (.int .i64 a2)) (by simp [go_sem])
        have r0 := cell_next hb (b := w.heap.size + 1) (o := 0) (by simp <;> omega) (v := some (.int .i64 0)) (by simp [go_sem])
        have r1 := cell_next hb (b := w.heap.size + 1) (o := 1) (by simp <;> omega) (v := some (.int .i64 0)) (by simp [go_sem])
        have f0 := frozen_next hb (b := w.heap.size + 1) (o := 0) (by simp <;> omega) (v := false) (by simp [go_sem])
        have f1 := frozen_next hb (b := w.heap.size + 1) (o := 1) (by simp <;> omega) (v := false) (by simp [go_sem])
        have hB := below2 hb
        have nz : w.heap.size + 1 < w1.heap.size := by have := hb.size; simp at this; omega
        clear hb
        go_wp2_with fail
        refine (c2.out _).mono ?_
        rintro e w' ⟨rfl, rfl⟩
        go_wp2_with fail
        refine (c3.out _).mono ?_
        rintro e w' ⟨rfl, rfl⟩
        go_wp2_with fail
        refine (c4.out _).mono ?_
        rintro e w' ⟨rfl, rfl⟩
        go_wp2_with fail
        refine (c5.out _).mono ?_
        rintro e w' ⟨rfl, rfl⟩
        go_wp2_with fail
        refine (c6.out _).mono ?_
        rintro e w2 ⟨rfl, hb⟩
        replace r0 := cell_next hb nz r0
        replace r1 := cell_next hb nz r1
        replace f0 := frozen_next hb nz f0
        replace f1 := frozen_next hb nz f1
        replace nz := Nat.lt_of_lt_of_le nz hb.size
        replace hB := hB.trans (hb.mono hB.size)
        clear hb
        go_wp2_with fail
        refine bodyPost_ret (v := .tuple #[.agg #[.int .i64 rl, .int .i64 rh], .int .i64 re]) (by simp [results, Try.results30, go_sem, r0, r1, f0, f1]) rfl ⟨by rw [E.out, E1.out, E2.out], ?_⟩
        exact (hB.setCell (p := ⟨w.heap.size + 1, 0, none⟩) (Nat.le_succ _) _).setCell (p := ⟨w.heap.size + 1, 1, none⟩) (Nat.le_succ _) _
  · have haf : vrB a1 a2 = false := by simpa using ha
    rw [haf] at c1
    have E : Hid (scE a1 a2 n d = 2) := Lib.hid (by unfold scE; rw [haf]; try rfl)
    have E1 : Hid (scL a1 a2 n d = 0) := Lib.hid (by unfold scL; rw [haf]; try rfl)
    have E2 : Hid (scH a1 a2 n d = 0) := Lib.hid (by unfold scH; rw [haf]; try rfl)
    clear ha haf hf hp hq
    go_enter Try.func30, Try.ntmps30
    go_wp2_with fail
    refine (c1.out _).mono ?_
    rintro e w1 ⟨rfl, hb⟩
    have a0 := cell_next hb (b := w.heap.size) (o := 0) (by simp <;> omega) (v := some (.int .i64 a1)) (by simp [go_sem])
    have a0' := cell_next hb (b := w.heap.size) (o := 1) (by simp <;> omega) (v := some (.int .i64 a2)) (by simp [go_sem])
    have r0 := cell_next hb (b := w.heap.size + 1) (o := 0) (by simp <;> omega) (v := some (.int .i64 0)) (by simp [go_sem])
    have r1 := cell_next hb (b := w.heap.size + 1) (o := 1) (by simp <;> omega) (v := some (.int .i64 0)) (by simp [go_sem])
    have f0 := frozen_next hb (b := w.heap.size + 1) (o := 0) (by simp <;> omega) (v := false) (by simp [go_sem])
    have f1 := frozen_next hb (b := w.heap.size + 1) (o := 1) (by simp <;> omega) (v := false) (by simp [go_sem])
    have hB := below2 hb
    have nz : w.heap.size + 1 < w1.heap.size := by have := hb.size; simp at this; omega
    clear hb
    go_wp2_with fail
    refine bodyPost_ret (v := .tuple #[.agg #[.int .i64 0, .int .i64 0], .int .i64 2]) (by simp [results, Try.results30, go_sem, r0, r1, f0, f1]) rfl ⟨by rw [E.out, E1.out, E2.out], ?_⟩
    exact (hB.setCell (p := ⟨w.heap.size + 1, 0, none⟩) (Nat.le_succ _) _).setCell (p := ⟨w.heap.size + 1, 1, none⟩) (Nat.le_succ _) _


end Go.Proofs.Ytgakniehfnegiaa
