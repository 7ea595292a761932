/- Contracts: the reference's ranges of quotients. -/
import Derived.Test.YtgakniehfnegiaaR5
import Derived.BigRegion
import Derived.Deep.DeepCutAuto
import Derived.Deep.QuietTactic
import Derived.BigQuiet
namespace Go.Proofs.Ytgakniehfnegiaa
open Go.RowKit Go.Lib Go.Shelf
set_option linter.unusedVariables false
set_option linter.unusedSimpArgs false
attribute [local go_sem ↓] Go.wp_at_zero Go.wp_at_succ


theorem Kp.drewN {B : Nat} {w W : World} (h : Kp B w W) (n : Nat) : Kp B w (W.drewN n) := ⟨below_drewN h.1 n, h.2⟩
/-- the least, and the greatest, of the first k of four numbers and a first one -/
def fo (l p q r s : Int) : Nat → Int
  | 0 => l
  | 1 => min l p
  | 2 => min (min l p) q
  | 3 => min (min (min l p) q) r
  | _ => min (min (min (min l p) q) r) s
def fm (l p q r s : Int) : Nat → Int
  | 0 => l
  | 1 => max l p
  | 2 => max (max l p) q
  | 3 => max (max (max l p) q) r
  | _ => max (max (max (max l p) q) r) s

set_option maxRecDepth 20000 in
set_option maxHeartbeats 6000000 in
theorem rOver_pos (a1 a2 b1 b2 f11 f12 f21 f22 c11 c12 c21 c22 rl rh re : Int) (c1 : Hid (∀ w : World, Calls Try.prog 28 #[.agg #[.int .i64 a1, .int .i64 a2]] w fun e w' => e = .returned (.bool true) ∧ Below w.heap.size w w'))
    (c2 : Hid (∀ w : World, Calls Try.prog 28 #[.agg #[.int .i64 b1, .int .i64 b2]] w fun e w' => e = .returned (.bool true) ∧ Below w.heap.size w w')) (cf11 : Hid (∀ w : World, Calls Try.prog 106 #[.int .i64 a1, .int .i64 b1] w fun e w' => e = .returned (.int .i64 f11) ∧ w = w')) (cc11 : Hid (∀ w : World, Calls Try.prog 107 #[.int .i64 a1, .int .i64 b1] w fun e w' => e = .returned (.int .i64 c11) ∧ w = w')) (cf12 : Hid (∀ w : World, Calls Try.prog 106 #[.int .i64 a1, .int .i64 b2] w fun e w' => e = .returned (.int .i64 f12) ∧ w = w')) (cc12 : Hid (∀ w : World, Calls Try.prog 107 #[.int .i64 a1, .int .i64 b2] w fun e w' => e = .returned (.int .i64 c12) ∧ w = w')) (cf21 : Hid (∀ w : World, Calls Try.prog 106 #[.int .i64 a2, .int .i64 b1] w fun e w' => e = .returned (.int .i64 f21) ∧ w = w')) (cc21 : Hid (∀ w : World, Calls Try.prog 107 #[.int .i64 a2, .int .i64 b1] w fun e w' => e = .returned (.int .i64 c21) ∧ w = w')) (cf22 : Hid (∀ w : World, Calls Try.prog 106 #[.int .i64 a2, .int .i64 b2] w fun e w' => e = .returned (.int .i64 f22) ∧ w = w')) (cc22 : Hid (∀ w : World, Calls Try.prog 107 #[.int .i64 a2, .int .i64 b2] w fun e w' => e = .returned (.int .i64 c22) ∧ w = w'))
    (c3 : Hid (∀ w : World, Calls Try.prog 97 #[.int .i64 (fo 4000000000000000 f11 f12 f21 f22 4), .int .i64 (fm (-4000000000000000) c11 c12 c21 c22 4)] w fun e w' => e = .returned (.tuple #[.agg #[.int .i64 rl, .int .i64 rh], .int .i64 re]) ∧ Below w.heap.size w w'))
    (d1 : decide (b1 ≤ 0) = false) (d2 : decide (0 ≤ b2) = true) (e1 : decide (b1 < 0) = false) (e2 : decide (b2 < 0) = false)  (w : World) :
    Calls Try.prog 34 #[.agg #[.int .i64 a1, .int .i64 a2], .agg #[.int .i64 b1, .int .i64 b2]] w fun e w' => e = .returned (.tuple #[.agg #[.int .i64 rl, .int .i64 rh], .int .i64 re]) ∧ Below w.heap.size w w' := by
  have M1 : ∀ (x y : Int) tys ty w, (Builtin.min_ tys ty #[.int .i64 x, .int .i64 y]).run Try.prog w = .ok (.int .i64 (min x y)) w := fun x y tys ty w => rrun_min2 tys ty .i64 _ _ w
  have M2 : ∀ (x y : Int) tys ty w, (Builtin.max_ tys ty #[.int .i64 x, .int .i64 y]).run Try.prog w = .ok (.int .i64 (max x y)) w := fun x y tys ty w => rrun_max2 tys ty .i64 _ _ w
  go_enter Try.func34, Try.ntmps34
  go_wp2_with fail
  refine (c1.out _).mono ?_
  rintro e w1 ⟨rfl, hb⟩
  have a0 := cell_next hb (b := w.heap.size) (o := 0) (by simp <;> omega) (v := some (.int .i64 a1)) (by simp [go_sem])
  have a0' := cell_next hb (b := w.heap.size) (o := 1) (by simp <;> omega) (v := some (.int .i64 a2)) (by simp [go_sem])
  have x0 := cell_next hb (b := w.heap.size + 1) (o := 0) (by simp <;> omega) (v := some (.int .i64 b1)) (by simp [go_sem])
  have x1 := cell_next hb (b := w.heap.size + 1) (o := 1) (by simp <;> omega) (v := some (.int .i64 b2)) (by simp [go_sem])
  have r0 := cell_next hb (b := w.heap.size + 1 + 1) (o := 0) (by simp <;> omega) (v := some (.int .i64 0)) (by simp [go_sem])
  have r1 := cell_next hb (b := w.heap.size + 1 + 1) (o := 1) (by simp <;> omega) (v := some (.int .i64 0)) (by simp [go_sem])
  have f0 := frozen_next hb (b := w.heap.size + 1 + 1) (o := 0) (by simp <;> omega) (v := false) (by simp [go_sem])
  have f1 := frozen_next hb (b := w.heap.size + 1 + 1) (o := 1) (by simp <;> omega) (v := false) (by simp [go_sem])
  have hB := below3 hb
  have nz : w.heap.size + 1 + 1 < w1.heap.size := by have := hb.size; simp at this; omega
  clear hb
  go_wp2_with fail
  refine (c2.out _).mono ?_
  rintro e w2 ⟨rfl, hb⟩
  have nz0 : w.heap.size < w1.heap.size := by omega
  have nz1 : w.heap.size + 1 < w1.heap.size := by omega
  replace a0 := cell_next hb nz0 a0
  replace a0' := cell_next hb nz0 a0'
  replace x0 := cell_next hb nz1 x0
  replace x1 := cell_next hb nz1 x1
  replace r0 := cell_next hb nz r0
  replace r1 := cell_next hb nz r1
  replace f0 := frozen_next hb nz f0
  replace f1 := frozen_next hb nz f1
  replace nz := Nat.lt_of_lt_of_le nz hb.size
  replace hB := hB.trans (hb.mono hB.size)
  clear hb nz0 nz1
  have HKp : Kp (w.heap.size + 1 + 1) w w2 := ⟨hB, nz, ⟨_, r0⟩, ⟨_, r1⟩, f0, f1⟩
  have HK := Lib.hid HKp
  have hsz := hB.size
  have a0z : ∀ o, (w2.alloc o).cell? ⟨w.heap.size, 0, none⟩ = _ := fun o => (((Below.refl w2.heap.size w2).alloc (Nat.le_refl _) o).cell (p := ⟨w.heap.size, 0, none⟩) (show w.heap.size < w2.heap.size by omega)).trans a0
  have a0y : ∀ o o', ((w2.alloc o).alloc o').cell? ⟨w.heap.size, 0, none⟩ = _ := fun o o' => ((((Below.refl w2.heap.size w2).alloc (Nat.le_refl _) o).alloc (by simp) o').cell (p := ⟨w.heap.size, 0, none⟩) (show w.heap.size < w2.heap.size by omega)).trans a0
  have a0pz : ∀ o, (w2.alloc o).cell? ⟨w.heap.size, 1, none⟩ = _ := fun o => (((Below.refl w2.heap.size w2).alloc (Nat.le_refl _) o).cell (p := ⟨w.heap.size, 1, none⟩) (show w.heap.size < w2.heap.size by omega)).trans a0'
  have a0py : ∀ o o', ((w2.alloc o).alloc o').cell? ⟨w.heap.size, 1, none⟩ = _ := fun o o' => ((((Below.refl w2.heap.size w2).alloc (Nat.le_refl _) o).alloc (by simp) o').cell (p := ⟨w.heap.size, 1, none⟩) (show w.heap.size < w2.heap.size by omega)).trans a0'
  have x0z : ∀ o, (w2.alloc o).cell? ⟨w.heap.size + 1, 0, none⟩ = _ := fun o => (((Below.refl w2.heap.size w2).alloc (Nat.le_refl _) o).cell (p := ⟨w.heap.size + 1, 0, none⟩) (show w.heap.size + 1 < w2.heap.size by omega)).trans x0
  have x0y : ∀ o o', ((w2.alloc o).alloc o').cell? ⟨w.heap.size + 1, 0, none⟩ = _ := fun o o' => ((((Below.refl w2.heap.size w2).alloc (Nat.le_refl _) o).alloc (by simp) o').cell (p := ⟨w.heap.size + 1, 0, none⟩) (show w.heap.size + 1 < w2.heap.size by omega)).trans x0
  have x1z : ∀ o, (w2.alloc o).cell? ⟨w.heap.size + 1, 1, none⟩ = _ := fun o => (((Below.refl w2.heap.size w2).alloc (Nat.le_refl _) o).cell (p := ⟨w.heap.size + 1, 1, none⟩) (show w.heap.size + 1 < w2.heap.size by omega)).trans x1
  have x1y : ∀ o o', ((w2.alloc o).alloc o').cell? ⟨w.heap.size + 1, 1, none⟩ = _ := fun o o' => ((((Below.refl w2.heap.size w2).alloc (Nat.le_refl _) o).alloc (by simp) o').cell (p := ⟨w.heap.size + 1, 1, none⟩) (show w.heap.size + 1 < w2.heap.size by omega)).trans x1
  clear HKp r0 r1 f0 f1 hB
  go_upto_region 6 with fail
  go_cut [8, 9] (fun s8 s9 wx => ∃ gx gy : Nat, s8 = .pointer (some ⟨gx, 0, none⟩) ∧ s9 = .pointer (some ⟨gy, 0, none⟩) ∧ wx.cell? ⟨gx, 0, none⟩ = some (.int .i64 a1) ∧ wx.cell? ⟨gx, 1, none⟩ = some (.int .i64 a2) ∧ wx.cell? ⟨gy, 0, none⟩ = some (.int .i64 b1) ∧ wx.cell? ⟨gy, 1, none⟩ = some (.int .i64 b2) ∧ Kp (w.heap.size + 1 + 1) w wx)
  case first =>
    go_region
    all_goals
      go_wp2_with fail
      go_meet
      first
        | refine ⟨w2.heap.size, w2.heap.size + 1, rfl, rfl, by simp [go_sem], by simp [go_sem], by simp [go_sem], by simp [go_sem], HK.out.next hsz ?_⟩
        | refine ⟨w2.heap.size + 1, w2.heap.size, rfl, rfl, by simp [go_sem], by simp [go_sem], by simp [go_sem], by simp [go_sem], HK.out.next hsz ?_⟩
      repeat (first | exact Below.refl _ _ | (with_reducible refine Below.setCell ?_ (by simp) _) | (with_reducible refine Below.alloc ?_ (by simp) _) | (with_reducible refine Below.drew ?_))
  case rest =>
    clear a0z a0y a0pz a0py x0z x0y x1z x1y a0 a0' x0 x1 HK hsz nz
    obtain ⟨gx, gy, rfl, rfl, x0, x1, y0, y1, hk⟩ := hcut
    go_wp2_with fail
    go_loopw [6, 7, 10] (fun l m i wr => ∃ k : Nat, k ≤ 4 ∧ i = .int .i64 k ∧ l = .int .i64 (fo 4000000000000000 f11 f12 f21 f22 k) ∧ m = .int .i64 (fm (-4000000000000000) c11 c12 c21 c22 k) ∧ wr.cell? ⟨gx, 0, none⟩ = some (.int .i64 a1) ∧ wr.cell? ⟨gx, 1, none⟩ = some (.int .i64 a2) ∧ wr.cell? ⟨gy, 0, none⟩ = some (.int .i64 b1) ∧ wr.cell? ⟨gy, 1, none⟩ = some (.int .i64 b2) ∧ Kp (w.heap.size + 1 + 1) w wr) (fun _ _ i _ => 4 - (intOf i).toNat)
    case atStart => exact ⟨0, Nat.zero_le _, rfl, rfl, rfl, x0, x1, y0, y1, hk⟩
    case round =>
      clear x0 x1 y0 y1 hk
      obtain ⟨k, hle, rfl, rfl, rfl, x0, x1, y0, y1, hk⟩ := hrel
      have hcs : k = 0 ∨ k = 1 ∨ k = 2 ∨ k = 3 ∨ k = 4 := by omega
      clear hle
      rcases hcs with rfl | rfl | rfl | rfl | rfl
      · skip
        go_wp2_with fail
        go_quiet (fail)
        go_wp2_with fail
        refine (cf11.out _).mono ?_
        rintro e w4 ⟨rfl, rfl⟩
        go_wp2_with fail
        refine (cc11.out _).mono ?_
        rintro e w5 ⟨rfl, rfl⟩
        go_wp2_with fail
        go_roundw
        case rel => exact ⟨1, by omega, by go_num, rfl, rfl, x0, x1, y0, y1, hk.drewN _⟩
        case measure => simp [intOf]
      · skip
        go_wp2_with fail
        go_quiet (fail)
        go_wp2_with fail
        refine (cf12.out _).mono ?_
        rintro e w4 ⟨rfl, rfl⟩
        go_wp2_with fail
        refine (cc12.out _).mono ?_
        rintro e w5 ⟨rfl, rfl⟩
        go_wp2_with fail
        go_roundw
        case rel => exact ⟨2, by omega, by go_num, rfl, rfl, x0, x1, y0, y1, hk.drewN _⟩
        case measure => simp [intOf]
      · skip
        go_wp2_with fail
        go_quiet (fail)
        go_wp2_with fail
        refine (cf21.out _).mono ?_
        rintro e w4 ⟨rfl, rfl⟩
        go_wp2_with fail
        refine (cc21.out _).mono ?_
        rintro e w5 ⟨rfl, rfl⟩
        go_wp2_with fail
        go_roundw
        case rel => exact ⟨3, by omega, by go_num, rfl, rfl, x0, x1, y0, y1, hk.drewN _⟩
        case measure => simp [intOf]
      · skip
        go_wp2_with fail
        go_quiet (fail)
        go_wp2_with fail
        refine (cf22.out _).mono ?_
        rintro e w4 ⟨rfl, rfl⟩
        go_wp2_with fail
        refine (cc22.out _).mono ?_
        rintro e w5 ⟨rfl, rfl⟩
        go_wp2_with fail
        go_roundw
        case rel => exact ⟨4, by omega, by go_num, rfl, rfl, x0, x1, y0, y1, hk.drewN _⟩
        case measure => simp [intOf]
      · skip
        go_wp2_with fail
        refine (c3.out _).mono ?_
        rintro e w3 ⟨rfl, hb⟩
        have hk' := hk.next hk.1.size hb
        obtain ⟨hB, nz', ⟨v0, r0⟩, ⟨v1, r1⟩, f0, f1⟩ := hk'
        clear hb hk x0 x1 y0 y1
        go_wp2_with fail
        refine bodyPost_ret (v := .tuple #[.agg #[.int .i64 rl, .int .i64 rh], .int .i64 re]) (by simp [results, Try.results34, go_sem, r0, r1, f0, f1]) rfl ⟨rfl, ?_⟩
        exact (hB.setCell (p := ⟨w.heap.size + 1 + 1, 0, none⟩) (Nat.le_succ_of_le (Nat.le_succ _)) _).setCell (p := ⟨w.heap.size + 1 + 1, 1, none⟩) (Nat.le_succ_of_le (Nat.le_succ _)) _

end Go.Proofs.Ytgakniehfnegiaa
