/- Contracts: the reference's ranges of products. -/
import Derived.Test.YtgakniehfnegiaaP6
import Derived.Deep.QuietTactic
import Derived.BigQuiet
namespace Go.Proofs.Ytgakniehfnegiaa
open Go.RowKit Go.Lib Go.Shelf
set_option linter.unusedVariables false
set_option linter.unusedSimpArgs false
attribute [local go_sem ↓] Go.wp_at_zero Go.wp_at_succ

theorem below_undrew' {n k : Nat} {W W' : World} (h : Below n (W.drewN k) W') : Below n W W' := ⟨h.os, h.tape, h.output, h.size, h.block⟩
theorem rrun_min2 {P : Program} (tys : Array TypeId) (ty : TypeId) (k : IntKind) (x y : Int) (w : World) : (Builtin.min_ tys ty #[.int k x, .int k y]).run P w = .ok (.int k (min x y)) w := by
  simp [Builtin.min_, Builtin.min2]
  split <;> omega
theorem run_min4 {P : Program} (tys : Array TypeId) (ty : TypeId) (k : IntKind) (a b c d : Int) (w : World) : (Builtin.min_ tys ty #[.int k a, .int k b, .int k c, .int k d]).run P w = .ok (.int k (min (min (min a b) c) d)) w := by
  simp [Builtin.min_, Builtin.min2]
  repeat' (split <;> try omega)
theorem run_max4 {P : Program} (tys : Array TypeId) (ty : TypeId) (k : IntKind) (a b c d : Int) (w : World) : (Builtin.max_ tys ty #[.int k a, .int k b, .int k c, .int k d]).run P w = .ok (.int k (max (max (max a b) c) d)) w := by
  simp [Builtin.max_, Builtin.max2]
  repeat' (split <;> try omega)

set_option maxRecDepth 20000 in
set_option maxHeartbeats 6000000 in
theorem rTimes_any (a1 a2 b1 b2 : Int) (w : World) :
    Calls Try.prog 32 #[.agg #[.int .i64 a1, .int .i64 a2], .agg #[.int .i64 b1, .int .i64 b2]] w fun e w' => e = .returned (.tuple #[.agg #[.int .i64 (tmL a1 a2 b1 b2), .int .i64 (tmH a1 a2 b1 b2)], .int .i64 (tmE a1 a2 b1 b2)]) ∧ Below w.heap.size w w' := by
  have c1 := Lib.hid (rRange_any a1 a2)
  have c2 := Lib.hid (rRange_any b1 b2)
  by_cases ha : vrB a1 a2 = true
  · by_cases hb : vrB b1 b2 = true
    · skip
      have h0 : (vrB a1 a2 && vrB b1 b2) = true := by rw [ha, hb]; rfl
      have va := vrB_of' ha
      have vb := vrB_of' hb
      rw [ha] at c1
      rw [hb] at c2
      clear ha hb
      have hm := times_fit va vb
      have E : Hid (tmE a1 a2 b1 b2 = fitE (prLo a1 a2 b1 b2) (prHi a1 a2 b1 b2)) := Lib.hid (by unfold tmE; rw [h0]; exact hm.2.2.1)
      have E1 : Hid (tmL a1 a2 b1 b2 = fitL (prLo a1 a2 b1 b2) (prHi a1 a2 b1 b2)) := Lib.hid (by unfold tmL; rw [h0]; exact hm.1)
      have E2 : Hid (tmH a1 a2 b1 b2 = fitH (prLo a1 a2 b1 b2) (prHi a1 a2 b1 b2)) := Lib.hid (by unfold tmH; rw [h0]; exact hm.2.1)
      have c3 := Lib.hid (rFits_any (prLo a1 a2 b1 b2) (prHi a1 a2 b1 b2) hm.2.2.2)
      obtain ⟨va1, va2, va3⟩ := va
      obtain ⟨vb1, vb2, vb3⟩ := vb
      have q1 := Lib.hid (rProduct_any a1 b1 (by omega) (by omega))
      have q2 := Lib.hid (rProduct_any a1 b2 (by omega) (by omega))
      have q3 := Lib.hid (rProduct_any a2 b1 (by omega) (by omega))
      have q4 := Lib.hid (rProduct_any a2 b2 (by omega) (by omega))
      have M1 : ∀ tys ty w, (Builtin.min_ tys ty #[.int .i64 (prd a1 b1), .int .i64 (prd a1 b2), .int .i64 (prd a2 b1), .int .i64 (prd a2 b2)]).run Try.prog w = .ok (.int .i64 (prLo a1 a2 b1 b2)) w := fun tys ty w => run_min4 tys ty .i64 _ _ _ _ w
      have M2 : ∀ tys ty w, (Builtin.max_ tys ty #[.int .i64 (prd a1 b1), .int .i64 (prd a1 b2), .int .i64 (prd a2 b1), .int .i64 (prd a2 b2)]).run Try.prog w = .ok (.int .i64 (prHi a1 a2 b1 b2)) w := fun tys ty w => run_max4 tys ty .i64 _ _ _ _ w
      clear hm h0
      generalize fitE (prLo a1 a2 b1 b2) (prHi a1 a2 b1 b2) = re at *
      generalize fitL (prLo a1 a2 b1 b2) (prHi a1 a2 b1 b2) = rl at *
      generalize fitH (prLo a1 a2 b1 b2) (prHi a1 a2 b1 b2) = rh at *
      generalize prLo a1 a2 b1 b2 = lo at *
      generalize prHi a1 a2 b1 b2 = hi at *
      generalize prd a1 b1 = p1 at *
      generalize prd a1 b2 = p2 at *
      generalize prd a2 b1 = p3 at *
      generalize prd a2 b2 = p4 at *
      go_enter Try.func32, Try.ntmps32
      go_wp2_with fail
      refine (c1.out _).mono ?_
      rintro e w1 ⟨rfl, hb⟩
      have a0 := cell_next hb (b := w.heap.size) (o := 0) (by simp <;> omega) (v := some (.int .i64 a1)) (by simp [go_sem])
      have a0' := cell_next hb (b := w.heap.size) (o := 1) (by simp <;> omega) (v := some (.int .i64 a2)) (by simp [go_sem])
      have x0 := cell_next hb (b := w.heap.size + 1) (o := 0) (by simp <;> omega) (v := some (.int .i64 b1)) (by simp [go_sem])
      have x1 := cell_next hb (b := w.heap.size + 1) (o := 1) (by simp <;> omega) (v := some (.int .i64 b2)) (by simp [go_sem])
      have r0 := cell_next hb (b := w.heap.size + 1 + 1) (o := 0) (by simp <;> omega) (v := some (.int .i64 0)) (by simp [go_sem])
      have r1 := cell_next hb (b := w.heap.size + 1 + 1) (o := 1) (by simp <;> omega) (v := some (.int .i64 0)) (by simp [go_sem])
      have f0 := frozen_next hb (b := w.heap.size + 1 + 1) (o := 0) (by simp <;> omega) (v := false) (by simp [go_sem])
      have f1 := frozen_next hb (b := w.heap.size + 1 + 1) (o := 1) (by simp <;> omega) (v := false) (by simp [go_sem])
      have hB := below3 hb
      have nz : w.heap.size + 1 + 1 < w1.heap.size := by have := hb.size; simp at this; omega
      clear hb
      go_wp2_with fail
      refine (c2.out _).mono ?_
      rintro e w2 ⟨rfl, hb⟩
      have nz0 : w.heap.size < w1.heap.size := by omega
      have nz1 : w.heap.size + 1 < w1.heap.size := by omega
      replace a0 := cell_next hb nz0 a0
      replace a0' := cell_next hb nz0 a0'
      replace x0 := cell_next hb nz1 x0
      replace x1 := cell_next hb nz1 x1
      replace r0 := cell_next hb nz r0
      replace r1 := cell_next hb nz r1
      replace f0 := frozen_next hb nz f0
      replace f1 := frozen_next hb nz f1
      replace nz := Nat.lt_of_lt_of_le nz hb.size
      replace hB := hB.trans (hb.mono hB.size)
      clear hb nz0 nz1
      go_wp2_with fail
      go_quiet ((go_at_call 104; first | (with_reducible exact quiet_left (q1.out _)) | (with_reducible exact quiet_left (q2.out _)) | (with_reducible exact quiet_left (q3.out _)) | (with_reducible exact quiet_left (q4.out _))))
      go_wp2_with fail
      refine (c3.out _).mono ?_
      rintro e w3 ⟨rfl, hb⟩
      replace hb := below_undrew' hb
      replace r0 := cell_next hb nz r0
      replace r1 := cell_next hb nz r1
      replace f0 := frozen_next hb nz f0
      replace f1 := frozen_next hb nz f1
      replace nz := Nat.lt_of_lt_of_le nz hb.size
      replace hB := hB.trans (hb.mono hB.size)
      clear hb
      go_wp2_with fail
      refine bodyPost_ret (v := .tuple #[.agg #[.int .i64 rl, .int .i64 rh], .int .i64 re]) (by simp [results, Try.results32, go_sem, r0, r1, f0, f1]) rfl ⟨by rw [E.out, E1.out, E2.out], ?_⟩
      exact (hB.setCell (p := ⟨w.heap.size + 1 + 1, 0, none⟩) (Nat.le_succ_of_le (Nat.le_succ _)) _).setCell (p := ⟨w.heap.size + 1 + 1, 1, none⟩) (Nat.le_succ_of_le (Nat.le_succ _)) _

    · have hbf : vrB b1 b2 = false := by simpa using hb
      have h0 : (vrB a1 a2 && vrB b1 b2) = false := by rw [hbf, Bool.and_false]
      have E : Hid (tmE a1 a2 b1 b2 = 2) := Lib.hid (by unfold tmE; rw [h0]; rfl)
      have E1 : Hid (tmL a1 a2 b1 b2 = 0) := Lib.hid (by unfold tmL; rw [h0]; rfl)
      have E2 : Hid (tmH a1 a2 b1 b2 = 0) := Lib.hid (by unfold tmH; rw [h0]; rfl)
      rw [ha] at c1
      rw [hbf] at c2
      clear ha hb hbf h0
      go_enter Try.func32, Try.ntmps32
      go_wp2_with fail
      refine (c1.out _).mono ?_
      rintro e w1 ⟨rfl, hb⟩
      have a0 := cell_next hb (b := w.heap.size) (o := 0) (by simp <;> omega) (v := some (.int .i64 a1)) (by simp [go_sem])
      have a0' := cell_next hb (b := w.heap.size) (o := 1) (by simp <;> omega) (v := some (.int .i64 a2)) (by simp [go_sem])
      have x0 := cell_next hb (b := w.heap.size + 1) (o := 0) (by simp <;> omega) (v := some (.int .i64 b1)) (by simp [go_sem])
      have x1 := cell_next hb (b := w.heap.size + 1) (o := 1) (by simp <;> omega) (v := some (.int .i64 b2)) (by simp [go_sem])
      have r0 := cell_next hb (b := w.heap.size + 1 + 1) (o := 0) (by simp <;> omega) (v := some (.int .i64 0)) (by simp [go_sem])
      have r1 := cell_next hb (b := w.heap.size + 1 + 1) (o := 1) (by simp <;> omega) (v := some (.int .i64 0)) (by simp [go_sem])
      have f0 := frozen_next hb (b := w.heap.size + 1 + 1) (o := 0) (by simp <;> omega) (v := false) (by simp [go_sem])
      have f1 := frozen_next hb (b := w.heap.size + 1 + 1) (o := 1) (by simp <;> omega) (v := false) (by simp [go_sem])
      have hB := below3 hb
      have nz : w.heap.size + 1 + 1 < w1.heap.size := by have := hb.size; simp at this; omega
      clear hb
      go_wp2_with fail
      refine (c2.out _).mono ?_
      rintro e w2 ⟨rfl, hb⟩
      have nz0 : w.heap.size < w1.heap.size := by omega
      have nz1 : w.heap.size + 1 < w1.heap.size := by omega
      replace a0 := cell_next hb nz0 a0
      replace a0' := cell_next hb nz0 a0'
      replace x0 := cell_next hb nz1 x0
      replace x1 := cell_next hb nz1 x1
      replace r0 := cell_next hb nz r0
      replace r1 := cell_next hb nz r1
      replace f0 := frozen_next hb nz f0
      replace f1 := frozen_next hb nz f1
      replace nz := Nat.lt_of_lt_of_le nz hb.size
      replace hB := hB.trans (hb.mono hB.size)
      clear hb nz0 nz1
      go_wp2_with fail
      refine bodyPost_ret (v := .tuple #[.agg #[.int .i64 0, .int .i64 0], .int .i64 2]) (by simp [results, Try.results32, go_sem, r0, r1, f0, f1]) rfl ⟨by rw [E.out, E1.out, E2.out], ?_⟩
      exact (hB.setCell (p := ⟨w.heap.size + 1 + 1, 0, none⟩) (Nat.le_succ_of_le (Nat.le_succ _)) _).setCell (p := ⟨w.heap.size + 1 + 1, 1, none⟩) (Nat.le_succ_of_le (Nat.le_succ _)) _

  · have haf : vrB a1 a2 = false := by simpa using ha
    have h0 : (vrB a1 a2 && vrB b1 b2) = false := by rw [haf, Bool.false_and]
    have E : Hid (tmE a1 a2 b1 b2 = 2) := Lib.hid (by unfold tmE; rw [h0]; rfl)
    have E1 : Hid (tmL a1 a2 b1 b2 = 0) := Lib.hid (by unfold tmL; rw [h0]; rfl)
    have E2 : Hid (tmH a1 a2 b1 b2 = 0) := Lib.hid (by unfold tmH; rw [h0]; rfl)
    rw [haf] at c1
    clear ha haf h0
    go_enter Try.func32, Try.ntmps32
    go_wp2_with fail
    refine (c1.out _).mono ?_
    rintro e w1 ⟨rfl, hb⟩
    have a0 := cell_next hb (b := w.heap.size) (o := 0) (by simp <;> omega) (v := some (.int .i64 a1)) (by simp [go_sem])
    have a0' := cell_next hb (b := w.heap.size) (o := 1) (by simp <;> omega) (v := some (.int .i64 a2)) (by simp [go_sem])
    have x0 := cell_next hb (b := w.heap.size + 1) (o := 0) (by simp <;> omega) (v := some (.int .i64 b1)) (by simp [go_sem])
    have x1 := cell_next hb (b := w.heap.size + 1) (o := 1) (by simp <;> omega) (v := some (.int .i64 b2)) (by simp [go_sem])
    have r0 := cell_next hb (b := w.heap.size + 1 + 1) (o := 0) (by simp <;> omega) (v := some (.int .i64 0)) (by simp [go_sem])
    have r1 := cell_next hb (b := w.heap.size + 1 + 1) (o := 1) (by simp <;> omega) (v := some (.int .i64 0)) (by simp [go_sem])
    have f0 := frozen_next hb (b := w.heap.size + 1 + 1) (o := 0) (by simp <;> omega) (v := false) (by simp [go_sem])
    have f1 := frozen_next hb (b := w.heap.size + 1 + 1) (o := 1) (by simp <;> omega) (v := false) (by simp [go_sem])
    have hB := below3 hb
    have nz : w.heap.size + 1 + 1 < w1.heap.size := by have := hb.size; simp at this; omega
    clear hb
    go_wp2_with fail
    refine bodyPost_ret (v := .tuple #[.agg #[.int .i64 0, .int .i64 0], .int .i64 2]) (by simp [results, Try.results32, go_sem, r0, r1, f0, f1]) rfl ⟨by rw [E.out, E1.out, E2.out], ?_⟩
    exact (hB.setCell (p := ⟨w.heap.size + 1 + 1, 0, none⟩) (Nat.le_succ_of_le (Nat.le_succ _)) _).setCell (p := ⟨w.heap.size + 1 + 1, 1, none⟩) (Nat.le_succ_of_le (Nat.le_succ _)) _

end Go.Proofs.Ytgakniehfnegiaa
