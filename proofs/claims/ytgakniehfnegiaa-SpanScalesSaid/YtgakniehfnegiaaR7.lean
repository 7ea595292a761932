/- Contracts: the reference's ranges of quotients. -/
import Derived.Test.YtgakniehfnegiaaR6
import Derived.BigRegion
import Derived.Deep.DeepCutAuto
import Derived.Deep.QuietTactic
import Derived.BigQuiet
namespace Go.Proofs.Ytgakniehfnegiaa
open Go.RowKit Go.Lib Go.Shelf
set_option linter.unusedVariables false
set_option linter.unusedSimpArgs false
attribute [local go_sem ↓] Go.wp_at_zero Go.wp_at_succ


set_option maxRecDepth 20000 in
set_option maxHeartbeats 6000000 in
theorem rOver_neg (a1 a2 b1 b2 f11 f12 f21 f22 c11 c12 c21 c22 rl rh re : Int) (c1 : Hid (∀ w : World, Calls Try.prog 28 #[.agg #[.int .i64 a1, .int .i64 a2]] w fun e w' => e = .returned (.bool true) ∧ Below w.heap.size w w'))
    (c2 : Hid (∀ w : World, Calls Try.prog 28 #[.agg #[.int .i64 b1, .int .i64 b2]] w fun e w' => e = .returned (.bool true) ∧ Below w.heap.size w w')) (cf11 : Hid (∀ w : World, Calls Try.prog 106 #[.int .i64 (-a1), .int .i64 (-b1)] w fun e w' => e = .returned (.int .i64 f11) ∧ w = w')) (cc11 : Hid (∀ w : World, Calls Try.prog 107 #[.int .i64 (-a1), .int .i64 (-b1)] w fun e w' => e = .returned (.int .i64 c11) ∧ w = w')) (cf12 : Hid (∀ w : World, Calls Try.prog 106 #[.int .i64 (-a1), .int .i64 (-b2)] w fun e w' => e = .returned (.int .i64 f12) ∧ w = w')) (cc12 : Hid (∀ w : World, Calls Try.prog 107 #[.int .i64 (-a1), .int .i64 (-b2)] w fun e w' => e = .returned (.int .i64 c12) ∧ w = w')) (cf21 : Hid (∀ w : World, Calls Try.prog 106 #[.int .i64 (-a2), .int .i64 (-b1)] w fun e w' => e = .returned (.int .i64 f21) ∧ w = w')) (cc21 : Hid (∀ w : World, Calls Try.prog 107 #[.int .i64 (-a2), .int .i64 (-b1)] w fun e w' => e = .returned (.int .i64 c21) ∧ w = w')) (cf22 : Hid (∀ w : World, Calls Try.prog 106 #[.int .i64 (-a2), .int .i64 (-b2)] w fun e w' => e = .returned (.int .i64 f22) ∧ w = w')) (cc22 : Hid (∀ w : World, Calls Try.prog 107 #[.int .i64 (-a2), .int .i64 (-b2)] w fun e w' => e = .returned (.int .i64 c22) ∧ w = w'))
    (c3 : Hid (∀ w : World, Calls Try.prog 97 #[.int .i64 (fo 4000000000000000 f11 f12 f21 f22 4), .int .i64 (fm (-4000000000000000) c11 c12 c21 c22 4)] w fun e w' => e = .returned (.tuple #[.agg #[.int .i64 rl, .int .i64 rh], .int .i64 re]) ∧ Below w.heap.size w w'))
    (d1 : decide (b1 ≤ 0) = true) (d2 : decide (0 ≤ b2) = false) (e1 : decide (b1 < 0) = true) (e2 : decide (b2 < 0) = true) (wna1 : IntKind.i64.wrap (-a1) = -a1) (wna2 : IntKind.i64.wrap (-a2) = -a2) (wnb1 : IntKind.i64.wrap (-b1) = -b1) (wnb2 : IntKind.i64.wrap (-b2) = -b2) (w : World) :
    Calls Try.prog 34 #[.agg #[.int .i64 a1, .int .i64 a2], .agg #[.int .i64 b1, .int .i64 b2]] w fun e w' => e = .returned (.tuple #[.agg #[.int .i64 rl, .int .i64 rh], .int .i64 re]) ∧ Below w.heap.size w w' := by
  have M1 : ∀ (x y : Int) tys ty w, (Builtin.min_ tys ty #[.int .i64 x, .int .i64 y]).run Try.prog w = .ok (.int .i64 (min x y)) w := fun x y tys ty w => rrun_min2 tys ty .i64 _ _ w
  have M2 : ∀ (x y : Int) tys ty w, (Builtin.max_ tys ty #[.int .i64 x, .int .i64 y]).run Try.prog w = .ok (.int .i64 (max x y)) w := fun x y tys ty w => rrun_max2 tys ty .i64 _ _ w
  go_enter Try.func34, Try.ntmps34
  go_wp2_with fail
  refine (c1.out _).mono ?_
  rintro e w1 ⟨rfl, hb⟩
  have a0 := cell_next hb (b := w.heap.size) (o := 0) (by simp <;> omega) (v := some (.int .i64 a1)) (by simp [go_sem])
  have a0' := cell_next hb (b := w.heap.size) (o := 1) (by simp <;> omega) (v := some (.int .i64 a2)) (by simp [go_sem])
  have x0 := cell_next hb (b := w.heap.size + 1) (o := 0) (by simp <;> omega) (v := some (.int .i64 b1)) (by simp [go_sem])
  have x1 := cell_next hb (b := w.heap.size + 1) (o := 1) (by simp <;> omega) (v := some (.int .i64 b2)) (by simp [go_sem])
  have r0 := cell_next hb (b := w.heap.size + 1 + 1) (o := 0) (by simp <;> omega) (v := some (.int .i64 0)) (by simp [go_sem])
  have r1 := cell_next hb (b := w.heap.size + 1 + 1) (o := 1) (by simp <;> omega) (v := some (.int .i64 0)) (by simp [go_sem])
  have f0 := frozen_next hb (b := w.heap.size + 1 + 1) (o := 0) (by simp <;> omega) (v := false) (by simp [go_sem])
  have f1 := frozen_next hb (b := w.heap.size + 1 + 1) (o := 1) (by simp <;> omega) (v := false) (by simp [go_sem])
  have hB := below3 hb
  have nz : w.heap.size + 1 + 1 < w1.heap.size := by have := hb.size; simp at this; omega
  clear hb
  go_wp2_with fail
  refine (c2.out _).mono ?_
  rintro e w2 ⟨rfl, hb⟩
  have nz0 : w.heap.size < w1.heap.size := by omega
  have nz1 : w.heap.size + 1 < w1.heap.size := by omega
  replace a0 := cell_next hb nz0 a0
  replace a0' := cell_next hb nz0 a0'
  replace x0 := cell_next hb nz1 x0
  replace x1 := cell_next hb nz1 x1
  replace r0 := cell_next hb nz r0
  replace r1 := cell_next hb nz r1
  replace f0 := frozen_next hb nz f0
  replace f1 := frozen_next hb nz f1
  replace nz := Nat.lt_of_lt_of_le nz hb.size
  replace hB := hB.trans (hb.mono hB.size)
  clear hb nz0 nz1
  have HKp : Kp (w.heap.size + 1 + 1) w w2 := ⟨hB, nz, ⟨_, r0⟩, ⟨_, r1⟩, f0, f1⟩
  have HK := Lib.hid HKp
  have hsz := hB.size
  have a0z : ∀ o, (w2.alloc o).cell? ⟨w.heap.size, 0, none⟩ = _ := fun o => (((Below.refl w2.heap.size w2).alloc (Nat.le_refl _) o).cell (p := ⟨w.heap.size, 0, none⟩) (show w.heap.size < w2.heap.size by omega)).trans a0
  have a0y : ∀ o o', ((w2.alloc o).alloc o').cell? ⟨w.heap.size, 0, none⟩ = _ := fun o o' => ((((Below.refl w2.heap.size w2).alloc (Nat.le_refl _) o).alloc (by simp) o').cell (p := ⟨w.heap.size, 0, none⟩) (show w.heap.size < w2.heap.size by omega)).trans a0
  have a0pz : ∀ o, (w2.alloc o).cell? ⟨w.heap.size, 1, none⟩ = _ := fun o => (((Below.refl w2.heap.size w2).alloc (Nat.le_refl _) o).cell (p := ⟨w.heap.size, 1, none⟩) (show w.heap.size < w2.heap.size by omega)).trans a0'
  have a0py : ∀ o o', ((w2.alloc o).alloc o').cell? ⟨w.heap.size, 1, none⟩ = _ := fun o o' => ((((Below.refl w2.heap.size w2).alloc (Nat.le_refl _) o).alloc (by simp) o').cell (p := ⟨w.heap.size, 1, none⟩) (show w.heap.size < w2.heap.size by omega)).trans a0'
  have x0z : ∀ o, (w2.alloc o).cell? ⟨w.heap.size + 1, 0, none⟩ = _ := fun o => (((Below.refl w2.heap.size w2).alloc (Nat.le_refl _) o).cell (p := ⟨w.heap.size + 1, 0, none⟩) (show w.heap.size + 1 < w2.heap.size by omega)).trans x0
  have x0y : ∀ o o', ((w2.alloc o).alloc o').cell? ⟨w.heap.size + 1, 0, none⟩ = _ := fun o o' => ((((Below.refl w2.heap.size w2).alloc (Nat.le_refl _) o).alloc (by simp) o').cell (p := ⟨w.heap.size + 1, 0, none⟩) (show w.heap.size + 1 < w2.heap.size by omega)).trans x0
  have x1z : ∀ o, (w2.alloc o).cell? ⟨w.heap.size + 1, 1, none⟩ = _ := fun o => (((Below.refl w2.heap.size w2).alloc (Nat.le_refl _) o).cell (p := ⟨w.heap.size + 1, 1, none⟩) (show w.heap.size + 1 < w2.heap.size by omega)).trans x1
  have x1y : ∀ o o', ((w2.alloc o).alloc o').cell? ⟨w.heap.size + 1, 1, none⟩ = _ := fun o o' => ((((Below.refl w2.heap.size w2).alloc (Nat.le_refl _) o).alloc (by simp) o').cell (p := ⟨w.heap.size + 1, 1, none⟩) (show w.heap.size + 1 < w2.heap.size by omega)).trans x1
  clear HKp r0 r1 f0 f1 hB
  go_upto_region 6 with fail
  go_cut [8, 9] (fun s8 s9 wx => ∃ gx gy : Nat, s8 = .pointer (some ⟨gx, 0, none⟩) ∧ s9 = .pointer (some ⟨gy, 0, none⟩) ∧ wx.cell? ⟨gx, 0, none⟩ = some (.int .i64 a1) ∧ wx.cell? ⟨gx, 1, none⟩ = some (.int .i64 a2) ∧ wx.cell? ⟨gy, 0, none⟩ = some (.int .i64 b1) ∧ wx.cell? ⟨gy, 1, none⟩ = some (.int .i64 b2) ∧ Kp (w.heap.size + 1 + 1) w wx)
  case first =>
    go_region
    all_goals
      go_wp2_with fail
      go_meet
      first
        | refine ⟨w2.heap.size, w2.heap.size + 1, rfl, rfl, by simp [go_sem], by simp [go_sem], by simp [go_sem], by simp [go_sem], HK.out.next hsz ?_⟩
        | refine ⟨w2.heap.size + 1, w2.heap.size, rfl, rfl, by simp [go_sem], by simp [go_sem], by simp [go_sem], by simp [go_sem], HK.out.next hsz ?_⟩
      repeat (first | exact Below.refl _ _ | (with_reducible refine Below.setCell ?_ (by simp) _) | (with_reducible refine Below.alloc ?_ (by simp) _) | (with_reducible refine Below.drew ?_))
  case rest =>
    clear a0z a0y a0pz a0py x0z x0y x1z x1y a0 a0' x0 x1 HK hsz nz
    obtain ⟨gx, gy, rfl, rfl, x0, x1, y0, y1, hk⟩ := hcut
    go_wp2_with fail
    go_loopw [6, 7, 10] (fun l m i wr => ∃ k : Nat, k ≤ 4 ∧ i = .int .i64 k ∧ l = .int .i64 (fo 4000000000000000 f11 f12 f21 f22 k) ∧ m = .int .i64 (fm (-4000000000000000) c11 c12 c21 c22 k) ∧ wr.cell? ⟨gx, 0, none⟩ = some (.int .i64 a1) ∧ wr.cell? ⟨gx, 1, none⟩ = some (.int .i64 a2) ∧ wr.cell? ⟨gy, 0, none⟩ = some (.int .i64 b1) ∧ wr.cell? ⟨gy, 1, none⟩ = some (.int .i64 b2) ∧ Kp (w.heap.size + 1 + 1) w wr) (fun _ _ i _ => 4 - (intOf i).toNat)
    case atStart => exact ⟨0, Nat.zero_le _, rfl, rfl, rfl, x0, x1, y0, y1, hk⟩
    case round =>
      clear x0 x1 y0 y1 hk
      obtain ⟨k, hle, rfl, rfl, rfl, x0, x1, y0, y1, hk⟩ := hrel
      have hcs : k = 0 ∨ k = 1 ∨ k = 2 ∨ k = 3 ∨ k = 4 := by omega
      clear hle
      rcases hcs with rfl | rfl | rfl | rfl | rfl
      · skip
        go_wp2_with fail
        go_quiet (fail)
        go_wp2_with fail
        refine (cf11.out _).mono ?_
        rintro e w4 ⟨rfl, rfl⟩
        go_wp2_with fail
        refine (cc11.out _).mono ?_
        rintro e w5 ⟨rfl, rfl⟩
        go_wp2_with fail
        go_roundw
        case rel => exact ⟨1, by omega, by go_num, rfl, rfl, x0, x1, y0, y1, hk.drewN _⟩
        case measure => simp [intOf]
      · skip
        go_wp2_with fail
        go_quiet (fail)
        go_wp2_with fail
        refine (cf12.out _).mono ?_
        rintro e w4 ⟨rfl, rfl⟩
        go_wp2_with fail
        refine (cc12.out _).mono ?_
        rintro e w5 ⟨rfl, rfl⟩
        go_wp2_with fail
        go_roundw
        case rel => exact ⟨2, by omega, by go_num, rfl, rfl, x0, x1, y0, y1, hk.drewN _⟩
        case measure => simp [intOf]
      · skip
        go_wp2_with fail
        go_quiet (fail)
        go_wp2_with fail
        refine (cf21.out _).mono ?_
        rintro e w4 ⟨rfl, rfl⟩
        go_wp2_with fail
        refine (cc21.out _).mono ?_
        rintro e w5 ⟨rfl, rfl⟩
        go_wp2_with fail
        go_roundw
        case rel => exact ⟨3, by omega, by go_num, rfl, rfl, x0, x1, y0, y1, hk.drewN _⟩
        case measure => simp [intOf]
      · skip
        go_wp2_with fail
        go_quiet (fail)
        go_wp2_with fail
        refine (cf22.out _).mono ?_
        rintro e w4 ⟨rfl, rfl⟩
        go_wp2_with fail
        refine (cc22.out _).mono ?_
        rintro e w5 ⟨rfl, rfl⟩
        go_wp2_with fail
        go_roundw
        case rel => exact ⟨4, by omega, by go_num, rfl, rfl, x0, x1, y0, y1, hk.drewN _⟩
        case measure => simp [intOf]
      · skip
        go_wp2_with fail
        refine (c3.out _).mono ?_
        rintro e w3 ⟨rfl, hb⟩
        have hk' := hk.next hk.1.size hb
        obtain ⟨hB, nz', ⟨v0, r0⟩, ⟨v1, r1⟩, f0, f1⟩ := hk'
        clear hb hk x0 x1 y0 y1
        go_wp2_with fail
        refine bodyPost_ret (v := .tuple #[.agg #[.int .i64 rl, .int .i64 rh], .int .i64 re]) (by simp [results, Try.results34, go_sem, r0, r1, f0, f1]) rfl ⟨rfl, ?_⟩
        exact (hB.setCell (p := ⟨w.heap.size + 1 + 1, 0, none⟩) (Nat.le_succ_of_le (Nat.le_succ _)) _).setCell (p := ⟨w.heap.size + 1 + 1, 1, none⟩) (Nat.le_succ_of_le (Nat.le_succ _)) _

set_option maxRecDepth 20000 in
set_option maxHeartbeats 1000000 in
theorem rOver_any (a1 a2 b1 b2 : Int) (w : World) :
    Calls Try.prog 34 #[.agg #[.int .i64 a1, .int .i64 a2], .agg #[.int .i64 b1, .int .i64 b2]] w fun e w' => e = .returned (.tuple #[.agg #[.int .i64 (ovL a1 a2 b1 b2), .int .i64 (ovH a1 a2 b1 b2)], .int .i64 (ovE a1 a2 b1 b2)]) ∧ Below w.heap.size w w' := by
  have c1 := Lib.hid (rRange_any a1 a2)
  have c2 := Lib.hid (rRange_any b1 b2)
  by_cases ha : vrB a1 a2 = true
  · by_cases hb : vrB b1 b2 = true
    · skip
      have h0 : (vrB a1 a2 && vrB b1 b2) = true := by rw [ha, hb]; rfl
      have va := vrB_of' ha
      have vb := vrB_of' hb
      rw [ha] at c1
      rw [hb] at c2
      clear ha hb
      obtain ⟨va1, va2, va3⟩ := va
      obtain ⟨vb1, vb2, vb3⟩ := vb
      by_cases hz : b1 ≤ 0 ∧ 0 ≤ b2
      · have E : Hid (ovE a1 a2 b1 b2 = 3) := Lib.hid (by unfold ovE; rw [h0, if_pos rfl, if_pos hz])
        have E1 : Hid (ovL a1 a2 b1 b2 = 0) := Lib.hid (by unfold ovL; rw [h0, if_pos rfl, if_pos hz])
        have E2 : Hid (ovH a1 a2 b1 b2 = 0) := Lib.hid (by unfold ovH; rw [h0, if_pos rfl, if_pos hz])
        obtain ⟨z1, z2⟩ := hz
        have d1 : decide (b1 ≤ 0) = true := by simpa using z1
        clear h0
        go_enter Try.func34, Try.ntmps34
        go_wp2_with fail
        refine (c1.out _).mono ?_
        rintro e w1 ⟨rfl, hb⟩
        have a0 := cell_next hb (b := w.heap.size) (o := 0) (by simp <;> omega) (v := some (.int .i64 a1)) (by simp [go_sem])
        have a0' := cell_next hb (b := w.heap.size) (o := 1) (by simp <;> omega) (v := some (.int .i64 a2)) (by simp [go_sem])
        have x0 := cell_next hb (b := w.heap.size + 1) (o := 0) (by simp <;> omega) (v := some (.int .i64 b1)) (by simp [go_sem])
        have x1 := cell_next hb (b := w.heap.size + 1) (o := 1) (by simp <;> omega) (v := some (.int .i64 b2)) (by simp [go_sem])
        have r0 := cell_next hb (b := w.heap.size + 1 + 1) (o := 0) (by simp <;> omega) (v := some (.int .i64 0)) (by simp [go_sem])
        have r1 := cell_next hb (b := w.heap.size + 1 + 1) (o := 1) (by simp <;> omega) (v := some (.int .i64 0)) (by simp [go_sem])
        have f0 := frozen_next hb (b := w.heap.size + 1 + 1) (o := 0) (by simp <;> omega) (v := false) (by simp [go_sem])
        have f1 := frozen_next hb (b := w.heap.size + 1 + 1) (o := 1) (by simp <;> omega) (v := false) (by simp [go_sem])
        have hB := below3 hb
        have nz : w.heap.size + 1 + 1 < w1.heap.size := by have := hb.size; simp at this; omega
        clear hb
        go_wp2_with fail
        refine (c2.out _).mono ?_
        rintro e w2 ⟨rfl, hb⟩
        have nz0 : w.heap.size < w1.heap.size := by omega
        have nz1 : w.heap.size + 1 < w1.heap.size := by omega
        replace a0 := cell_next hb nz0 a0
        replace a0' := cell_next hb nz0 a0'
        replace x0 := cell_next hb nz1 x0
        replace x1 := cell_next hb nz1 x1
        replace r0 := cell_next hb nz r0
        replace r1 := cell_next hb nz r1
        replace f0 := frozen_next hb nz f0
        replace f1 := frozen_next hb nz f1
        replace nz := Nat.lt_of_lt_of_le nz hb.size
        replace hB := hB.trans (hb.mono hB.size)
        clear hb nz0 nz1
        go_wp2_with fail
        refine bodyPost_ret (v := .tuple #[.agg #[.int .i64 0, .int .i64 0], .int .i64 3]) (by simp [results, Try.results34, go_sem, r0, r1, f0, f1]) rfl ⟨by rw [E.out, E1.out, E2.out], ?_⟩
        exact (hB.setCell (p := ⟨w.heap.size + 1 + 1, 0, none⟩) (Nat.le_succ_of_le (Nat.le_succ _)) _).setCell (p := ⟨w.heap.size + 1 + 1, 1, none⟩) (Nat.le_succ_of_le (Nat.le_succ _)) _
      · obtain ⟨p11, n11, l11, u11⟩ := over_q (a := a1) (b := b1) (by omega) (by omega)
        obtain ⟨p12, n12, l12, u12⟩ := over_q (a := a1) (b := b2) (by omega) (by omega)
        obtain ⟨p21, n21, l21, u21⟩ := over_q (a := a2) (b := b1) (by omega) (by omega)
        obtain ⟨p22, n22, l22, u22⟩ := over_q (a := a2) (b := b2) (by omega) (by omega)
        have el : (overP a1 a2 b1 b2).1 = fo 4000000000000000 (qLo a1 1 b1) (qLo a1 1 b2) (qLo a2 1 b1) (qLo a2 1 b2) 4 := by
          have e : (overP a1 a2 b1 b2).1 = min (min (min (qLo a1 1 b1) (qLo a1 1 b2)) (qLo a2 1 b1)) (qLo a2 1 b2) := rfl
          rw [e]
          simp only [fo]
          omega
        have eh : (overP a1 a2 b1 b2).2 = fm (-4000000000000000) (qHi a1 1 b1) (qHi a1 1 b2) (qHi a2 1 b1) (qHi a2 1 b2) 4 := by
          have e : (overP a1 a2 b1 b2).2 = max (max (max (qHi a1 1 b1) (qHi a1 1 b2)) (qHi a2 1 b1)) (qHi a2 1 b2) := rfl
          rw [e]
          simp only [fm]
          omega
        have hle : fo 4000000000000000 (qLo a1 1 b1) (qLo a1 1 b2) (qLo a2 1 b1) (qLo a2 1 b2) 4 ≤ fm (-4000000000000000) (qHi a1 1 b1) (qHi a1 1 b2) (qHi a2 1 b1) (qHi a2 1 b2) 4 := by
          simp only [fo, fm]
          omega
        have E : ovE a1 a2 b1 b2 = fitE (overP a1 a2 b1 b2).1 (overP a1 a2 b1 b2).2 := by unfold ovE; rw [h0, if_pos rfl, if_neg hz]
        have E1 : ovL a1 a2 b1 b2 = fitL (overP a1 a2 b1 b2).1 (overP a1 a2 b1 b2).2 := by unfold ovL; rw [h0, if_pos rfl, if_neg hz]
        have E2 : ovH a1 a2 b1 b2 = fitH (overP a1 a2 b1 b2).1 (overP a1 a2 b1 b2).2 := by unfold ovH; rw [h0, if_pos rfl, if_neg hz]
        rw [E, E1, E2, el, eh]
        have c3 := Lib.hid (rFits_any _ _ hle)
        by_cases hp : 0 < b1
        · obtain ⟨x11, y11⟩ := p11 hp
          obtain ⟨x12, y12⟩ := p12 (by omega)
          obtain ⟨x21, y21⟩ := p21 hp
          obtain ⟨x22, y22⟩ := p22 (by omega)
          rw [x11, x12, x21, x22, y11, y12, y21, y22] at c3 ⊢
          exact rOver_pos a1 a2 b1 b2 _ _ _ _ _ _ _ _ _ _ _ c1 c2 (Lib.hid (rFloor_any a1 b1 (by omega) (by omega) (by omega))) (Lib.hid (rCeil_any a1 b1 (by omega) (by omega) (by omega))) (Lib.hid (rFloor_any a1 b2 (by omega) (by omega) (by omega))) (Lib.hid (rCeil_any a1 b2 (by omega) (by omega) (by omega)))
            (Lib.hid (rFloor_any a2 b1 (by omega) (by omega) (by omega))) (Lib.hid (rCeil_any a2 b1 (by omega) (by omega) (by omega))) (Lib.hid (rFloor_any a2 b2 (by omega) (by omega) (by omega))) (Lib.hid (rCeil_any a2 b2 (by omega) (by omega) (by omega))) c3
            (by simp; omega) (by simp; omega) (by simp; omega) (by simp; omega) w
        · obtain ⟨x11, y11⟩ := n11 (by omega)
          obtain ⟨x12, y12⟩ := n12 (by omega)
          obtain ⟨x21, y21⟩ := n21 (by omega)
          obtain ⟨x22, y22⟩ := n22 (by omega)
          rw [x11, x12, x21, x22, y11, y12, y21, y22] at c3 ⊢
          exact rOver_neg a1 a2 b1 b2 _ _ _ _ _ _ _ _ _ _ _ c1 c2 (Lib.hid (rFloor_any (-a1) (-b1) (by omega) (by omega) (by omega))) (Lib.hid (rCeil_any (-a1) (-b1) (by omega) (by omega) (by omega))) (Lib.hid (rFloor_any (-a1) (-b2) (by omega) (by omega) (by omega))) (Lib.hid (rCeil_any (-a1) (-b2) (by omega) (by omega) (by omega)))
            (Lib.hid (rFloor_any (-a2) (-b1) (by omega) (by omega) (by omega))) (Lib.hid (rCeil_any (-a2) (-b1) (by omega) (by omega) (by omega))) (Lib.hid (rFloor_any (-a2) (-b2) (by omega) (by omega) (by omega))) (Lib.hid (rCeil_any (-a2) (-b2) (by omega) (by omega) (by omega))) c3
            (by simp; omega) (by simp; omega) (by simp; omega) (by simp; omega) (IntWalk.i64_in _ (by omega)) (IntWalk.i64_in _ (by omega)) (IntWalk.i64_in _ (by omega)) (IntWalk.i64_in _ (by omega)) w

    · have hbf : vrB b1 b2 = false := by simpa using hb
      have h0 : (vrB a1 a2 && vrB b1 b2) = false := by rw [hbf, Bool.and_false]
      have E : Hid (ovE a1 a2 b1 b2 = 2) := Lib.hid (by unfold ovE; rw [h0]; rfl)
      have E1 : Hid (ovL a1 a2 b1 b2 = 0) := Lib.hid (by unfold ovL; rw [h0]; rfl)
      have E2 : Hid (ovH a1 a2 b1 b2 = 0) := Lib.hid (by unfold ovH; rw [h0]; rfl)
      rw [ha] at c1
      rw [hbf] at c2
      clear ha hb hbf h0
      go_enter Try.func34, Try.ntmps34
      go_wp2_with fail
      refine (c1.out _).mono ?_
      rintro e w1 ⟨rfl, hb⟩
      have a0 := cell_next hb (b := w.heap.size) (o := 0) (by simp <;> omega) (v := some (.int .i64 a1)) (by simp [go_sem])
      have a0' := cell_next hb (b := w.heap.size) (o := 1) (by simp <;> omega) (v := some (.int .i64 a2)) (by simp [go_sem])
      have x0 := cell_next hb (b := w.heap.size + 1) (o := 0) (by simp <;> omega) (v := some (.int .i64 b1)) (by simp [go_sem])
      have x1 := cell_next hb (b := w.heap.size + 1) (o := 1) (by simp <;> omega) (v := some (.int .i64 b2)) (by simp [go_sem])
      have r0 := cell_next hb (b := w.heap.size + 1 + 1) (o := 0) (by simp <;> omega) (v := some (.int .i64 0)) (by simp [go_sem])
      have r1 := cell_next hb (b := w.heap.size + 1 + 1) (o := 1) (by simp <;> omega) (v := some (.int .i64 0)) (by simp [go_sem])
      have f0 := frozen_next hb (b := w.heap.size + 1 + 1) (o := 0) (by simp <;> omega) (v := false) (by simp [go_sem])
      have f1 := frozen_next hb (b := w.heap.size + 1 + 1) (o := 1) (by simp <;> omega) (v := false) (by simp [go_sem])
      have hB := below3 hb
      have nz : w.heap.size + 1 + 1 < w1.heap.size := by have := hb.size; simp at this; omega
      clear hb
      go_wp2_with fail
      refine (c2.out _).mono ?_
      rintro e w2 ⟨rfl, hb⟩
      have nz0 : w.heap.size < w1.heap.size := by omega
      have nz1 : w.heap.size + 1 < w1.heap.size := by omega
      replace a0 := cell_next hb nz0 a0
      replace a0' := cell_next hb nz0 a0'
      replace x0 := cell_next hb nz1 x0
      replace x1 := cell_next hb nz1 x1
      replace r0 := cell_next hb nz r0
      replace r1 := cell_next hb nz r1
      replace f0 := frozen_next hb nz f0
      replace f1 := frozen_next hb nz f1
      replace nz := Nat.lt_of_lt_of_le nz hb.size
      replace hB := hB.trans (hb.mono hB.size)
      clear hb nz0 nz1
      go_wp2_with fail
      refine bodyPost_ret (v := .tuple #[.agg #[.int .i64 0, .int .i64 0], .int .i64 2]) (by simp [results, Try.results34, go_sem, r0, r1, f0, f1]) rfl ⟨by rw [E.out, E1.out, E2.out], ?_⟩
      exact (hB.setCell (p := ⟨w.heap.size + 1 + 1, 0, none⟩) (Nat.le_succ_of_le (Nat.le_succ _)) _).setCell (p := ⟨w.heap.size + 1 + 1, 1, none⟩) (Nat.le_succ_of_le (Nat.le_succ _)) _

  · have haf : vrB a1 a2 = false := by simpa using ha
    have h0 : (vrB a1 a2 && vrB b1 b2) = false := by rw [haf, Bool.false_and]
    have E : Hid (ovE a1 a2 b1 b2 = 2) := Lib.hid (by unfold ovE; rw [h0]; rfl)
    have E1 : Hid (ovL a1 a2 b1 b2 = 0) := Lib.hid (by unfold ovL; rw [h0]; rfl)
    have E2 : Hid (ovH a1 a2 b1 b2 = 0) := Lib.hid (by unfold ovH; rw [h0]; rfl)
    rw [haf] at c1
    clear ha haf h0
    go_enter Try.func34, Try.ntmps34
    go_wp2_with fail
    refine (c1.out _).mono ?_
    rintro e w1 ⟨rfl, hb⟩
    have a0 := cell_next hb (b := w.heap.size) (o := 0) (by simp <;> omega) (v := some (.int .i64 a1)) (by simp [go_sem])
    have a0' := cell_next hb (b := w.heap.size) (o := 1) (by simp <;> omega) (v := some (.int .i64 a2)) (by simp [go_sem])
    have x0 := cell_next hb (b := w.heap.size + 1) (o := 0) (by simp <;> omega) (v := some (.int .i64 b1)) (by simp [go_sem])
    have x1 := cell_next hb (b := w.heap.size + 1) (o := 1) (by simp <;> omega) (v := some (.int .i64 b2)) (by simp [go_sem])
    have r0 := cell_next hb (b := w.heap.size + 1 + 1) (o := 0) (by simp <;> omega) (v := some (.int .i64 0)) (by simp [go_sem])
    have r1 := cell_next hb (b := w.heap.size + 1 + 1) (o := 1) (by simp <;> omega) (v := some (.int .i64 0)) (by simp [go_sem])
    have f0 := frozen_next hb (b := w.heap.size + 1 + 1) (o := 0) (by simp <;> omega) (v := false) (by simp [go_sem])
    have f1 := frozen_next hb (b := w.heap.size + 1 + 1) (o := 1) (by simp <;> omega) (v := false) (by simp [go_sem])
    have hB := below3 hb
    have nz : w.heap.size + 1 + 1 < w1.heap.size := by have := hb.size; simp at this; omega
    clear hb
    go_wp2_with fail
    refine bodyPost_ret (v := .tuple #[.agg #[.int .i64 0, .int .i64 0], .int .i64 2]) (by simp [results, Try.results34, go_sem, r0, r1, f0, f1]) rfl ⟨by rw [E.out, E1.out, E2.out], ?_⟩
    exact (hB.setCell (p := ⟨w.heap.size + 1 + 1, 0, none⟩) (Nat.le_succ_of_le (Nat.le_succ _)) _).setCell (p := ⟨w.heap.size + 1 + 1, 1, none⟩) (Nat.le_succ_of_le (Nat.le_succ _)) _

end Go.Proofs.Ytgakniehfnegiaa
