/- Contracts of package candy: cubes, what a truth is, the steps of a cube. -/
import Derived.Test.YtgklpbgdimkhaaaGreatJ7
namespace Go.Proofs.YtgklpbgdimkhaaaGreat
open Go.RowKit Go.Lib Go.Shelf
set_option linter.unusedVariables false
set_option linter.unusedSimpArgs false
attribute [local go_sem ↓] Go.wp_at_zero Go.wp_at_succ

theorem arrAt (g c : Nat) (w : World) : (Instr.arrayAt 155 (.slice (some ⟨g, 0, none⟩) 3 c)).run Tryz.prog w = .ok (.pointer (some ⟨g, 0, none⟩)) w := by kernel_rfl

set_option maxRecDepth 20000 in
set_option maxHeartbeats 1000000 in
theorem newCube_any (a0 b0 a1 b1 a2 b2 : Int) (g c : Nat) (w : World) (hg : g < w.heap.size) (h0 : w.cell? ⟨g, 0, none⟩ = some (.int .i64 a0)) (h1 : w.cell? ⟨g, 1, none⟩ = some (.int .i64 b0)) (h2 : w.cell? ⟨g, 2, none⟩ = some (.int .i64 a1)) (h3 : w.cell? ⟨g, 3, none⟩ = some (.int .i64 b1)) (h4 : w.cell? ⟨g, 4, none⟩ = some (.int .i64 a2)) (h5 : w.cell? ⟨g, 5, none⟩ = some (.int .i64 b2)) :
  Calls Tryz.prog 123 #[.slice (some ⟨g, 0, none⟩) 3 c] w fun e w' => e = .returned (.agg #[.int .i64 a0, .int .i64 b0, .int .i64 a1, .int .i64 b1, .int .i64 a2, .int .i64 b2]) ∧ Below w.heap.size w w' := by
 have hne : g ≠ w.heap.size := by omega
 have haa := arrAt g c
 have hal := fun o => (Below.refl w.heap.size w).alloc (Nat.le_refl _) o
 have k0 := fun o => cell_next (hal o) hg h0
 have k1 := fun o => cell_next (hal o) hg h1
 have k2 := fun o => cell_next (hal o) hg h2
 have k3 := fun o => cell_next (hal o) hg h3
 have k4 := fun o => cell_next (hal o) hg h4
 have k5 := fun o => cell_next (hal o) hg h5
 go_enter Tryz.func123, Tryz.ntmps123
 go_wp2_with fail
 refine bodyPost_ret (v := .agg #[.int .i64 a0, .int .i64 b0, .int .i64 a1, .int .i64 b1, .int .i64 a2, .int .i64 b2]) (by simp [results, Tryz.results123, go_sem]) rfl ⟨rfl, ?_⟩
 repeat (first | with_reducible exact hal _ | (with_reducible refine Below.setCell ?_ ?_ _; rotate_left 1; focus (simp <;> omega)))

def cubB (p : Pd) : Array Value := #[.int .i64 p.dl, .int .i64 p.dh, .int .i64 p.sl, .int .i64 p.sh, .int .i64 p.tl, .int .i64 p.th]
set_option maxRecDepth 20000 in
set_option maxHeartbeats 1000000 in
theorem cubeOf_any (p : Pd) (w : World) : Calls Tryz.prog 96 #[.agg (cPd p).toArray] w fun e w' => e = .returned (.agg (cubB p)) ∧ Below w.heap.size w w' := by
 obtain ⟨dl, dh, sl, sh, tl, th, se, wo⟩ := p
 have C1 := Lib.hid (fun (W : World) (g c : Nat) => newCube_any dl dh sl sh tl th g c W)
 dsimp only [cPd]
 go_enter Tryz.func96, Tryz.ntmps96
 go_wp2_with fail
 refine (C1.out _ _ _ (by simp) (by simp [go_sem]) (by simp [go_sem]) (by simp [go_sem]) (by simp [go_sem]) (by simp [go_sem]) (by simp [go_sem])).mono ?_
 rintro e W1 ⟨rfl, hb⟩
 have b0 := cell_next hb (b := w.heap.size) (o := 0) (by simp <;> omega) (v := some (.int .i64 dl)) (by simp [go_sem])
 have b1 := cell_next hb (b := w.heap.size) (o := 1) (by simp <;> omega) (v := some (.int .i64 dh)) (by simp [go_sem])
 have b2 := cell_next hb (b := w.heap.size) (o := 2) (by simp <;> omega) (v := some (.int .i64 sl)) (by simp [go_sem])
 have b3 := cell_next hb (b := w.heap.size) (o := 3) (by simp <;> omega) (v := some (.int .i64 sh)) (by simp [go_sem])
 have b4 := cell_next hb (b := w.heap.size) (o := 4) (by simp <;> omega) (v := some (.int .i64 tl)) (by simp [go_sem])
 have b5 := cell_next hb (b := w.heap.size) (o := 5) (by simp <;> omega) (v := some (.int .i64 th)) (by simp [go_sem])
 have b6 := cell_next hb (b := w.heap.size) (o := 6) (by simp <;> omega) (v := some (.int .i64 se)) (by simp [go_sem])
 have b7 := cell_next hb (b := w.heap.size) (o := 7) (by simp <;> omega) (v := some (.int .i64 wo)) (by simp [go_sem])
 have nb : w.heap.size < W1.heap.size := by have := hb.size; simp at this; omega
 have r0 := cell_next hb (b := w.heap.size + 1) (o := 0) (by simp <;> omega) (v := some (.int .i64 0)) (by simp [go_sem])
 have fr0 := frozen_next hb (b := w.heap.size + 1) (o := 0) (by simp <;> omega) (v := false) (by simp [go_sem])
 have r1 := cell_next hb (b := w.heap.size + 1) (o := 1) (by simp <;> omega) (v := some (.int .i64 0)) (by simp [go_sem])
 have fr1 := frozen_next hb (b := w.heap.size + 1) (o := 1) (by simp <;> omega) (v := false) (by simp [go_sem])
 have r2 := cell_next hb (b := w.heap.size + 1) (o := 2) (by simp <;> omega) (v := some (.int .i64 0)) (by simp [go_sem])
 have fr2 := frozen_next hb (b := w.heap.size + 1) (o := 2) (by simp <;> omega) (v := false) (by simp [go_sem])
 have r3 := cell_next hb (b := w.heap.size + 1) (o := 3) (by simp <;> omega) (v := some (.int .i64 0)) (by simp [go_sem])
 have fr3 := frozen_next hb (b := w.heap.size + 1) (o := 3) (by simp <;> omega) (v := false) (by simp [go_sem])
 have r4 := cell_next hb (b := w.heap.size + 1) (o := 4) (by simp <;> omega) (v := some (.int .i64 0)) (by simp [go_sem])
 have fr4 := frozen_next hb (b := w.heap.size + 1) (o := 4) (by simp <;> omega) (v := false) (by simp [go_sem])
 have r5 := cell_next hb (b := w.heap.size + 1) (o := 5) (by simp <;> omega) (v := some (.int .i64 0)) (by simp [go_sem])
 have fr5 := frozen_next hb (b := w.heap.size + 1) (o := 5) (by simp <;> omega) (v := false) (by simp [go_sem])
 have nr : w.heap.size + 1 < W1.heap.size := by have := hb.size; simp at this; omega
 have hB := (below3 hb)
 clear hb
 go_wp2_with fail
 refine bodyPost_ret (v := .agg #[.int .i64 dl, .int .i64 dh, .int .i64 sl, .int .i64 sh, .int .i64 tl, .int .i64 th]) (by simp [results, Tryz.results96, go_sem, r0, r1, r2, r3, r4, r5, fr0, fr1, fr2, fr3, fr4, fr5]) rfl ⟨rfl, ?_⟩
 exact ((((((hB.setCell (p := ⟨w.heap.size + 1, 0, none⟩) (by simp <;> omega) _).setCell (p := ⟨w.heap.size + 1, 1, none⟩) (by simp <;> omega) _).setCell (p := ⟨w.heap.size + 1, 2, none⟩) (by simp <;> omega) _).setCell (p := ⟨w.heap.size + 1, 3, none⟩) (by simp <;> omega) _).setCell (p := ⟨w.heap.size + 1, 4, none⟩) (by simp <;> omega) _).setCell (p := ⟨w.heap.size + 1, 5, none⟩) (by simp <;> omega) _)

set_option maxRecDepth 20000 in
set_option maxHeartbeats 1000000 in
theorem truths_any (b : Nat) (dl dh sl sh tl th : Int) (w : World) (np : b < w.heap.size) (p0 : w.cell? ⟨b, 0, none⟩ = some (.int .i64 dl)) (p1 : w.cell? ⟨b, 1, none⟩ = some (.int .i64 dh)) (p4 : w.cell? ⟨b, 4, none⟩ = some (.int .i64 sl)) (p5 : w.cell? ⟨b, 5, none⟩ = some (.int .i64 sh)) (p6 : w.cell? ⟨b, 6, none⟩ = some (.int .i64 tl)) (p7 : w.cell? ⟨b, 7, none⟩ = some (.int .i64 th)) : Calls Tryz.prog 97 #[.pointer (some ⟨b, 0, none⟩)] w fun e w' => e = .returned (.agg #[.int .i64 dl, .int .i64 dh, .int .i64 sl, .int .i64 sh, .int .i64 tl, .int .i64 th]) ∧ Below w.heap.size w w' := by
 have nb := np
 have C1 := Lib.hid (fun (W : World) (g c : Nat) => newCube_any dl dh sl sh tl th g c W)
 go_enter Tryz.func97, Tryz.ntmps97
 go_wp2_with fail
 have hb : Below w.heap.size w (w.alloc (Obj.cells #[.int .i64 0, .int .i64 0, .int .i64 0, .int .i64 0, .int .i64 0, .int .i64 0] 155)) := ((Below.refl _ _).alloc (Nat.le_refl _) _)
 replace p0 := cell_next hb np p0
 replace p1 := cell_next hb np p1
 replace p4 := cell_next hb np p4
 replace p5 := cell_next hb np p5
 replace p6 := cell_next hb np p6
 replace p7 := cell_next hb np p7
 replace np := Nat.lt_of_lt_of_le np hb.size
 have r0 : (w.alloc (Obj.cells #[.int .i64 0, .int .i64 0, .int .i64 0, .int .i64 0, .int .i64 0, .int .i64 0] 155)).cell? ⟨w.heap.size, 0, none⟩ = some (.int .i64 0) := by simp [go_sem]
 have fr0 : (w.alloc (Obj.cells #[.int .i64 0, .int .i64 0, .int .i64 0, .int .i64 0, .int .i64 0, .int .i64 0] 155)).frozen? ⟨w.heap.size, 0, none⟩ = false := by simp [go_sem]
 have r1 : (w.alloc (Obj.cells #[.int .i64 0, .int .i64 0, .int .i64 0, .int .i64 0, .int .i64 0, .int .i64 0] 155)).cell? ⟨w.heap.size, 1, none⟩ = some (.int .i64 0) := by simp [go_sem]
 have fr1 : (w.alloc (Obj.cells #[.int .i64 0, .int .i64 0, .int .i64 0, .int .i64 0, .int .i64 0, .int .i64 0] 155)).frozen? ⟨w.heap.size, 1, none⟩ = false := by simp [go_sem]
 have r2 : (w.alloc (Obj.cells #[.int .i64 0, .int .i64 0, .int .i64 0, .int .i64 0, .int .i64 0, .int .i64 0] 155)).cell? ⟨w.heap.size, 2, none⟩ = some (.int .i64 0) := by simp [go_sem]
 have fr2 : (w.alloc (Obj.cells #[.int .i64 0, .int .i64 0, .int .i64 0, .int .i64 0, .int .i64 0, .int .i64 0] 155)).frozen? ⟨w.heap.size, 2, none⟩ = false := by simp [go_sem]
 have r3 : (w.alloc (Obj.cells #[.int .i64 0, .int .i64 0, .int .i64 0, .int .i64 0, .int .i64 0, .int .i64 0] 155)).cell? ⟨w.heap.size, 3, none⟩ = some (.int .i64 0) := by simp [go_sem]
 have fr3 : (w.alloc (Obj.cells #[.int .i64 0, .int .i64 0, .int .i64 0, .int .i64 0, .int .i64 0, .int .i64 0] 155)).frozen? ⟨w.heap.size, 3, none⟩ = false := by simp [go_sem]
 have r4 : (w.alloc (Obj.cells #[.int .i64 0, .int .i64 0, .int .i64 0, .int .i64 0, .int .i64 0, .int .i64 0] 155)).cell? ⟨w.heap.size, 4, none⟩ = some (.int .i64 0) := by simp [go_sem]
 have fr4 : (w.alloc (Obj.cells #[.int .i64 0, .int .i64 0, .int .i64 0, .int .i64 0, .int .i64 0, .int .i64 0] 155)).frozen? ⟨w.heap.size, 4, none⟩ = false := by simp [go_sem]
 have r5 : (w.alloc (Obj.cells #[.int .i64 0, .int .i64 0, .int .i64 0, .int .i64 0, .int .i64 0, .int .i64 0] 155)).cell? ⟨w.heap.size, 5, none⟩ = some (.int .i64 0) := by simp [go_sem]
 have fr5 : (w.alloc (Obj.cells #[.int .i64 0, .int .i64 0, .int .i64 0, .int .i64 0, .int .i64 0, .int .i64 0] 155)).frozen? ⟨w.heap.size, 5, none⟩ = false := by simp [go_sem]
 have nr : w.heap.size < (w.alloc (Obj.cells #[.int .i64 0, .int .i64 0, .int .i64 0, .int .i64 0, .int .i64 0, .int .i64 0] 155)).heap.size := by simp <;> omega
 have hB := hb
 clear hb
 generalize (w.alloc (Obj.cells #[.int .i64 0, .int .i64 0, .int .i64 0, .int .i64 0, .int .i64 0, .int .i64 0] 155)) = W1 at *
 have hBW : w.heap.size ≤ W1.heap.size := hB.size
 refine wp_region_held_drew (S := fun w' => w'.cell? ⟨b, 0, none⟩ = some (.int .i64 dl) ∧ w'.cell? ⟨b, 1, none⟩ = some (.int .i64 dh) ∧ w'.cell? ⟨b, 4, none⟩ = some (.int .i64 sl) ∧ w'.cell? ⟨b, 5, none⟩ = some (.int .i64 sh) ∧ w'.cell? ⟨b, 6, none⟩ = some (.int .i64 tl) ∧ w'.cell? ⟨b, 7, none⟩ = some (.int .i64 th) ∧ True) (by kernel_rfl) ?_ (fun hHeld => ?_)
 focus (exact ⟨p0, p1, p4, p5, p6, p7, trivial⟩)
 have hL : Below w.heap.size W1 W1.drew := Below.drew (Below.refl _ _)
 replace p0 : W1.drew.cell? ⟨b, 0, none⟩ = some (.int .i64 dl) := p0
 replace p1 : W1.drew.cell? ⟨b, 1, none⟩ = some (.int .i64 dh) := p1
 replace p4 : W1.drew.cell? ⟨b, 4, none⟩ = some (.int .i64 sl) := p4
 replace p5 : W1.drew.cell? ⟨b, 5, none⟩ = some (.int .i64 sh) := p5
 replace p6 : W1.drew.cell? ⟨b, 6, none⟩ = some (.int .i64 tl) := p6
 replace p7 : W1.drew.cell? ⟨b, 7, none⟩ = some (.int .i64 th) := p7
 replace r0 : W1.drew.cell? ⟨w.heap.size, 0, none⟩ = some (.int .i64 0) := r0
 replace fr0 : W1.drew.frozen? ⟨w.heap.size, 0, none⟩ = false := fr0
 replace r1 : W1.drew.cell? ⟨w.heap.size, 1, none⟩ = some (.int .i64 0) := r1
 replace fr1 : W1.drew.frozen? ⟨w.heap.size, 1, none⟩ = false := fr1
 replace r2 : W1.drew.cell? ⟨w.heap.size, 2, none⟩ = some (.int .i64 0) := r2
 replace fr2 : W1.drew.frozen? ⟨w.heap.size, 2, none⟩ = false := fr2
 replace r3 : W1.drew.cell? ⟨w.heap.size, 3, none⟩ = some (.int .i64 0) := r3
 replace fr3 : W1.drew.frozen? ⟨w.heap.size, 3, none⟩ = false := fr3
 replace r4 : W1.drew.cell? ⟨w.heap.size, 4, none⟩ = some (.int .i64 0) := r4
 replace fr4 : W1.drew.frozen? ⟨w.heap.size, 4, none⟩ = false := fr4
 replace r5 : W1.drew.cell? ⟨w.heap.size, 5, none⟩ = some (.int .i64 0) := r5
 replace fr5 : W1.drew.frozen? ⟨w.heap.size, 5, none⟩ = false := fr5
 replace np : b < W1.drew.heap.size := np
 replace nr : w.heap.size < W1.drew.heap.size := nr
 generalize hWd : W1.drew = wd2 at hHeld hL p0 p1 p4 p5 p6 p7 r0 fr0 r1 fr1 r2 fr2 r3 fr3 r4 fr4 r5 fr5 np nr  ⊢
 clear hWd
 refine tq 0 3 ?_ ?_ ?_; rotate_left; (focus intro w h; (try dsimp only at h); go_simp; try with_reducible rfl); try simp only [sA, sB, sC]
 refine tq 1 4 ?_ ?_ ?_; rotate_left; (focus intro w h; (try dsimp only at h); go_simp; try with_reducible rfl); try simp only [sA, sB, sC]
 refine tq 2 5 ?_ ?_ ?_; rotate_left; (focus intro w h; (try dsimp only at h); go_simp; try with_reducible rfl); try simp only [sA, sB, sC]
 refine tq 3 6 ?_ ?_ ?_; rotate_left; (focus intro w h; (try dsimp only at h); go_simp; try with_reducible rfl); try simp only [sA, sB, sC]
 refine tq 4 7 ?_ ?_ ?_; rotate_left; (focus intro w h; (try dsimp only at h); go_simp; try with_reducible rfl); try simp only [sA, sB, sC]
 refine tq 5 8 ?_ ?_ ?_; rotate_left; (focus intro w h; (try dsimp only at h); go_simp; try with_reducible rfl); try simp only [sA, sB, sC]
 refine tq 6 9 ?_ ?_ ?_; rotate_left; (focus intro w h; (try dsimp only at h); go_simp; try with_reducible rfl); try simp only [sA, sB, sC]
 refine tq 7 10 ?_ ?_ ?_; rotate_left; (focus intro w h; (try dsimp only at h); go_simp; try with_reducible rfl); try simp only [sA, sB, sC]
 refine tq 8 11 ?_ ?_ ?_; rotate_left; (focus intro w h; (try dsimp only at h); go_simp; try with_reducible rfl); try simp only [sA, sB, sC]
 refine tq 9 12 ?_ ?_ ?_; rotate_left; (focus intro w h; (try dsimp only at h); go_simp; try with_reducible rfl); try simp only [sA, sB, sC]
 refine tq 10 13 ?_ ?_ ?_; rotate_left; (focus intro w h; (try dsimp only at h); go_simp; try with_reducible rfl); try simp only [sA, sB, sC]
 refine tq 11 14 ?_ ?_ ?_; rotate_left; (focus intro w h; (try dsimp only at h); go_simp; try with_reducible rfl); try simp only [sA, sB, sC]
 refine tq 12 15 ?_ ?_ ?_; rotate_left; (focus intro w h; (try dsimp only at h); go_simp; try with_reducible rfl); try simp only [sA, sB, sC]
 refine tq 13 16 ?_ ?_ ?_; rotate_left; (focus intro w h; (try dsimp only at h); go_simp; try with_reducible rfl); try simp only [sA, sB, sC]
 refine tq 14 17 ?_ ?_ ?_; rotate_left; (focus intro w h; (try dsimp only at h); go_simp; try with_reducible rfl); try simp only [sA, sB, sC]
 refine rd1 15 (fun K hK => ?_)
 go_simp
 have hb := (Below.refl wd2.heap.size wd2).alloc (Nat.le_refl _) (Obj.cells #[.int .i64 dl, .int .i64 dh, .int .i64 sl, .int .i64 sh, .int .i64 tl, .int .i64 th] 24)
 have szZ2x1 := hL.size
 have ord1np := np
 have ord1nr := nr
 replace p0 := cell_next hb np p0
 replace p1 := cell_next hb np p1
 replace p4 := cell_next hb np p4
 replace p5 := cell_next hb np p5
 replace p6 := cell_next hb np p6
 replace p7 := cell_next hb np p7
 replace r0 := cell_next hb nr r0
 replace fr0 := frozen_next hb nr fr0
 replace r1 := cell_next hb nr r1
 replace fr1 := frozen_next hb nr fr1
 replace r2 := cell_next hb nr r2
 replace fr2 := frozen_next hb nr fr2
 replace r3 := cell_next hb nr r3
 replace fr3 := frozen_next hb nr fr3
 replace r4 := cell_next hb nr r4
 replace fr4 := frozen_next hb nr fr4
 replace r5 := cell_next hb nr r5
 replace fr5 := frozen_next hb nr fr5
 replace np := Nat.lt_of_lt_of_le np hb.size
 replace nr := Nat.lt_of_lt_of_le nr hb.size
 replace hL := hL.trans (hb.mono (Nat.le_trans hBW hL.size))
 have K0 : (wd2.alloc (Obj.cells #[.int .i64 dl, .int .i64 dh, .int .i64 sl, .int .i64 sh, .int .i64 tl, .int .i64 th] 24)).cell? ⟨wd2.heap.size, 0, none⟩ = some (.int .i64 dl) := cell_new _ _ _ 0
 have K1 : (wd2.alloc (Obj.cells #[.int .i64 dl, .int .i64 dh, .int .i64 sl, .int .i64 sh, .int .i64 tl, .int .i64 th] 24)).cell? ⟨wd2.heap.size, 1, none⟩ = some (.int .i64 dh) := cell_new _ _ _ 1
 have K2 : (wd2.alloc (Obj.cells #[.int .i64 dl, .int .i64 dh, .int .i64 sl, .int .i64 sh, .int .i64 tl, .int .i64 th] 24)).cell? ⟨wd2.heap.size, 2, none⟩ = some (.int .i64 sl) := cell_new _ _ _ 2
 have K3 : (wd2.alloc (Obj.cells #[.int .i64 dl, .int .i64 dh, .int .i64 sl, .int .i64 sh, .int .i64 tl, .int .i64 th] 24)).cell? ⟨wd2.heap.size, 3, none⟩ = some (.int .i64 sh) := cell_new _ _ _ 3
 have K4 : (wd2.alloc (Obj.cells #[.int .i64 dl, .int .i64 dh, .int .i64 sl, .int .i64 sh, .int .i64 tl, .int .i64 th] 24)).cell? ⟨wd2.heap.size, 4, none⟩ = some (.int .i64 tl) := cell_new _ _ _ 4
 have K5 : (wd2.alloc (Obj.cells #[.int .i64 dl, .int .i64 dh, .int .i64 sl, .int .i64 sh, .int .i64 tl, .int .i64 th] 24)).cell? ⟨wd2.heap.size, 5, none⟩ = some (.int .i64 th) := cell_new _ _ _ 5
 have nK : wd2.heap.size < (wd2.alloc (Obj.cells #[.int .i64 dl, .int .i64 dh, .int .i64 sl, .int .i64 sh, .int .i64 tl, .int .i64 th] 24)).heap.size := by simp
 refine hK.out _ _ ⟨p0, p1, p4, p5, p6, p7, trivial⟩ (fun hHeld => ?_)
 clear hK K hb
 generalize wd2.alloc (Obj.cells #[.int .i64 dl, .int .i64 dh, .int .i64 sl, .int .i64 sh, .int .i64 tl, .int .i64 th] 24) = Z2x1 at *
 try simp only [Act.put, sA, sB, sC]
 refine rd1 16 (fun K hK => ?_)
 go_simp
 refine (C1.out _ _ _ nK K0 K1 K2 K3 K4 K5).mono ?_
 rintro e Z2x2 ⟨rfl, hb⟩
 replace p0 := cell_next hb np p0
 replace p1 := cell_next hb np p1
 replace p4 := cell_next hb np p4
 replace p5 := cell_next hb np p5
 replace p6 := cell_next hb np p6
 replace p7 := cell_next hb np p7
 replace r0 := cell_next hb nr r0
 replace fr0 := frozen_next hb nr fr0
 replace r1 := cell_next hb nr r1
 replace fr1 := frozen_next hb nr fr1
 replace r2 := cell_next hb nr r2
 replace fr2 := frozen_next hb nr fr2
 replace r3 := cell_next hb nr r3
 replace fr3 := frozen_next hb nr fr3
 replace r4 := cell_next hb nr r4
 replace fr4 := frozen_next hb nr fr4
 replace r5 := cell_next hb nr r5
 replace fr5 := frozen_next hb nr fr5
 replace K0 := cell_next hb nK K0
 replace K1 := cell_next hb nK K1
 replace K2 := cell_next hb nK K2
 replace K3 := cell_next hb nK K3
 replace K4 := cell_next hb nK K4
 replace K5 := cell_next hb nK K5
 replace np := Nat.lt_of_lt_of_le np hb.size
 replace nr := Nat.lt_of_lt_of_le nr hb.size
 replace nK := Nat.lt_of_lt_of_le nK hb.size
 replace hL := hL.trans (hb.mono (Nat.le_trans hBW hL.size))
 refine hK.out _ _ ⟨p0, p1, p4, p5, p6, p7, trivial⟩ (fun hHeld => ?_)
 clear hK K hb
 try simp only [Act.put, sA, sB, sC]
 refine rd1 17 (fun K hK => ?_)
 go_simp
 replace p0 : ((((((Z2x2.setCell ⟨w.heap.size, 0, none⟩ (.int .i64 dl)).setCell ⟨w.heap.size, 1, none⟩ (.int .i64 dh)).setCell ⟨w.heap.size, 2, none⟩ (.int .i64 sl)).setCell ⟨w.heap.size, 3, none⟩ (.int .i64 sh)).setCell ⟨w.heap.size, 4, none⟩ (.int .i64 tl)).setCell ⟨w.heap.size, 5, none⟩ (.int .i64 th)).cell? ⟨b, 0, none⟩ = some (.int .i64 dl) := ((so (by omega)).trans ((so (by omega)).trans ((so (by omega)).trans ((so (by omega)).trans ((so (by omega)).trans ((so (by omega)).trans p0))))))
 replace p1 : ((((((Z2x2.setCell ⟨w.heap.size, 0, none⟩ (.int .i64 dl)).setCell ⟨w.heap.size, 1, none⟩ (.int .i64 dh)).setCell ⟨w.heap.size, 2, none⟩ (.int .i64 sl)).setCell ⟨w.heap.size, 3, none⟩ (.int .i64 sh)).setCell ⟨w.heap.size, 4, none⟩ (.int .i64 tl)).setCell ⟨w.heap.size, 5, none⟩ (.int .i64 th)).cell? ⟨b, 1, none⟩ = some (.int .i64 dh) := ((so (by omega)).trans ((so (by omega)).trans ((so (by omega)).trans ((so (by omega)).trans ((so (by omega)).trans ((so (by omega)).trans p1))))))
 replace p4 : ((((((Z2x2.setCell ⟨w.heap.size, 0, none⟩ (.int .i64 dl)).setCell ⟨w.heap.size, 1, none⟩ (.int .i64 dh)).setCell ⟨w.heap.size, 2, none⟩ (.int .i64 sl)).setCell ⟨w.heap.size, 3, none⟩ (.int .i64 sh)).setCell ⟨w.heap.size, 4, none⟩ (.int .i64 tl)).setCell ⟨w.heap.size, 5, none⟩ (.int .i64 th)).cell? ⟨b, 4, none⟩ = some (.int .i64 sl) := ((so (by omega)).trans ((so (by omega)).trans ((so (by omega)).trans ((so (by omega)).trans ((so (by omega)).trans ((so (by omega)).trans p4))))))
 replace p5 : ((((((Z2x2.setCell ⟨w.heap.size, 0, none⟩ (.int .i64 dl)).setCell ⟨w.heap.size, 1, none⟩ (.int .i64 dh)).setCell ⟨w.heap.size, 2, none⟩ (.int .i64 sl)).setCell ⟨w.heap.size, 3, none⟩ (.int .i64 sh)).setCell ⟨w.heap.size, 4, none⟩ (.int .i64 tl)).setCell ⟨w.heap.size, 5, none⟩ (.int .i64 th)).cell? ⟨b, 5, none⟩ = some (.int .i64 sh) := ((so (by omega)).trans ((so (by omega)).trans ((so (by omega)).trans ((so (by omega)).trans ((so (by omega)).trans ((so (by omega)).trans p5))))))
 replace p6 : ((((((Z2x2.setCell ⟨w.heap.size, 0, none⟩ (.int .i64 dl)).setCell ⟨w.heap.size, 1, none⟩ (.int .i64 dh)).setCell ⟨w.heap.size, 2, none⟩ (.int .i64 sl)).setCell ⟨w.heap.size, 3, none⟩ (.int .i64 sh)).setCell ⟨w.heap.size, 4, none⟩ (.int .i64 tl)).setCell ⟨w.heap.size, 5, none⟩ (.int .i64 th)).cell? ⟨b, 6, none⟩ = some (.int .i64 tl) := ((so (by omega)).trans ((so (by omega)).trans ((so (by omega)).trans ((so (by omega)).trans ((so (by omega)).trans ((so (by omega)).trans p6))))))
 replace p7 : ((((((Z2x2.setCell ⟨w.heap.size, 0, none⟩ (.int .i64 dl)).setCell ⟨w.heap.size, 1, none⟩ (.int .i64 dh)).setCell ⟨w.heap.size, 2, none⟩ (.int .i64 sl)).setCell ⟨w.heap.size, 3, none⟩ (.int .i64 sh)).setCell ⟨w.heap.size, 4, none⟩ (.int .i64 tl)).setCell ⟨w.heap.size, 5, none⟩ (.int .i64 th)).cell? ⟨b, 7, none⟩ = some (.int .i64 th) := ((so (by omega)).trans ((so (by omega)).trans ((so (by omega)).trans ((so (by omega)).trans ((so (by omega)).trans ((so (by omega)).trans p7))))))
 replace r0 : ((((((Z2x2.setCell ⟨w.heap.size, 0, none⟩ (.int .i64 dl)).setCell ⟨w.heap.size, 1, none⟩ (.int .i64 dh)).setCell ⟨w.heap.size, 2, none⟩ (.int .i64 sl)).setCell ⟨w.heap.size, 3, none⟩ (.int .i64 sh)).setCell ⟨w.heap.size, 4, none⟩ (.int .i64 tl)).setCell ⟨w.heap.size, 5, none⟩ (.int .i64 th)).cell? ⟨w.heap.size, 0, none⟩ = some (.int .i64 dl) := by simp [go_sem, r0]
 replace fr0 : ((((((Z2x2.setCell ⟨w.heap.size, 0, none⟩ (.int .i64 dl)).setCell ⟨w.heap.size, 1, none⟩ (.int .i64 dh)).setCell ⟨w.heap.size, 2, none⟩ (.int .i64 sl)).setCell ⟨w.heap.size, 3, none⟩ (.int .i64 sh)).setCell ⟨w.heap.size, 4, none⟩ (.int .i64 tl)).setCell ⟨w.heap.size, 5, none⟩ (.int .i64 th)).frozen? ⟨w.heap.size, 0, none⟩ = false := by simp [go_sem, fr0]
 replace r1 : ((((((Z2x2.setCell ⟨w.heap.size, 0, none⟩ (.int .i64 dl)).setCell ⟨w.heap.size, 1, none⟩ (.int .i64 dh)).setCell ⟨w.heap.size, 2, none⟩ (.int .i64 sl)).setCell ⟨w.heap.size, 3, none⟩ (.int .i64 sh)).setCell ⟨w.heap.size, 4, none⟩ (.int .i64 tl)).setCell ⟨w.heap.size, 5, none⟩ (.int .i64 th)).cell? ⟨w.heap.size, 1, none⟩ = some (.int .i64 dh) := by simp [go_sem, r1]
 replace fr1 : ((((((Z2x2.setCell ⟨w.heap.size, 0, none⟩ (.int .i64 dl)).setCell ⟨w.heap.size, 1, none⟩ (.int .i64 dh)).setCell ⟨w.heap.size, 2, none⟩ (.int .i64 sl)).setCell ⟨w.heap.size, 3, none⟩ (.int .i64 sh)).setCell ⟨w.heap.size, 4, none⟩ (.int .i64 tl)).setCell ⟨w.heap.size, 5, none⟩ (.int .i64 th)).frozen? ⟨w.heap.size, 1, none⟩ = false := by simp [go_sem, fr1]
 replace r2 : ((((((Z2x2.setCell ⟨w.heap.size, 0, none⟩ (.int .i64 dl)).setCell ⟨w.heap.size, 1, none⟩ (.int .i64 dh)).setCell ⟨w.heap.size, 2, none⟩ (.int .i64 sl)).setCell ⟨w.heap.size, 3, none⟩ (.int .i64 sh)).setCell ⟨w.heap.size, 4, none⟩ (.int .i64 tl)).setCell ⟨w.heap.size, 5, none⟩ (.int .i64 th)).cell? ⟨w.heap.size, 2, none⟩ = some (.int .i64 sl) := by simp [go_sem, r2]
 replace fr2 : ((((((Z2x2.setCell ⟨w.heap.size, 0, none⟩ (.int .i64 dl)).setCell ⟨w.heap.size, 1, none⟩ (.int .i64 dh)).setCell ⟨w.heap.size, 2, none⟩ (.int .i64 sl)).setCell ⟨w.heap.size, 3, none⟩ (.int .i64 sh)).setCell ⟨w.heap.size, 4, none⟩ (.int .i64 tl)).setCell ⟨w.heap.size, 5, none⟩ (.int .i64 th)).frozen? ⟨w.heap.size, 2, none⟩ = false := by simp [go_sem, fr2]
 replace r3 : ((((((Z2x2.setCell ⟨w.heap.size, 0, none⟩ (.int .i64 dl)).setCell ⟨w.heap.size, 1, none⟩ (.int .i64 dh)).setCell ⟨w.heap.size, 2, none⟩ (.int .i64 sl)).setCell ⟨w.heap.size, 3, none⟩ (.int .i64 sh)).setCell ⟨w.heap.size, 4, none⟩ (.int .i64 tl)).setCell ⟨w.heap.size, 5, none⟩ (.int .i64 th)).cell? ⟨w.heap.size, 3, none⟩ = some (.int .i64 sh) := by simp [go_sem, r3]
 replace fr3 : ((((((Z2x2.setCell ⟨w.heap.size, 0, none⟩ (.int .i64 dl)).setCell ⟨w.heap.size, 1, none⟩ (.int .i64 dh)).setCell ⟨w.heap.size, 2, none⟩ (.int .i64 sl)).setCell ⟨w.heap.size, 3, none⟩ (.int .i64 sh)).setCell ⟨w.heap.size, 4, none⟩ (.int .i64 tl)).setCell ⟨w.heap.size, 5, none⟩ (.int .i64 th)).frozen? ⟨w.heap.size, 3, none⟩ = false := by simp [go_sem, fr3]
 replace r4 : ((((((Z2x2.setCell ⟨w.heap.size, 0, none⟩ (.int .i64 dl)).setCell ⟨w.heap.size, 1, none⟩ (.int .i64 dh)).setCell ⟨w.heap.size, 2, none⟩ (.int .i64 sl)).setCell ⟨w.heap.size, 3, none⟩ (.int .i64 sh)).setCell ⟨w.heap.size, 4, none⟩ (.int .i64 tl)).setCell ⟨w.heap.size, 5, none⟩ (.int .i64 th)).cell? ⟨w.heap.size, 4, none⟩ = some (.int .i64 tl) := by simp [go_sem, r4]
 replace fr4 : ((((((Z2x2.setCell ⟨w.heap.size, 0, none⟩ (.int .i64 dl)).setCell ⟨w.heap.size, 1, none⟩ (.int .i64 dh)).setCell ⟨w.heap.size, 2, none⟩ (.int .i64 sl)).setCell ⟨w.heap.size, 3, none⟩ (.int .i64 sh)).setCell ⟨w.heap.size, 4, none⟩ (.int .i64 tl)).setCell ⟨w.heap.size, 5, none⟩ (.int .i64 th)).frozen? ⟨w.heap.size, 4, none⟩ = false := by simp [go_sem, fr4]
 replace r5 : ((((((Z2x2.setCell ⟨w.heap.size, 0, none⟩ (.int .i64 dl)).setCell ⟨w.heap.size, 1, none⟩ (.int .i64 dh)).setCell ⟨w.heap.size, 2, none⟩ (.int .i64 sl)).setCell ⟨w.heap.size, 3, none⟩ (.int .i64 sh)).setCell ⟨w.heap.size, 4, none⟩ (.int .i64 tl)).setCell ⟨w.heap.size, 5, none⟩ (.int .i64 th)).cell? ⟨w.heap.size, 5, none⟩ = some (.int .i64 th) := by simp [go_sem, r5]
 replace fr5 : ((((((Z2x2.setCell ⟨w.heap.size, 0, none⟩ (.int .i64 dl)).setCell ⟨w.heap.size, 1, none⟩ (.int .i64 dh)).setCell ⟨w.heap.size, 2, none⟩ (.int .i64 sl)).setCell ⟨w.heap.size, 3, none⟩ (.int .i64 sh)).setCell ⟨w.heap.size, 4, none⟩ (.int .i64 tl)).setCell ⟨w.heap.size, 5, none⟩ (.int .i64 th)).frozen? ⟨w.heap.size, 5, none⟩ = false := by simp [go_sem, fr5]
 replace K0 : ((((((Z2x2.setCell ⟨w.heap.size, 0, none⟩ (.int .i64 dl)).setCell ⟨w.heap.size, 1, none⟩ (.int .i64 dh)).setCell ⟨w.heap.size, 2, none⟩ (.int .i64 sl)).setCell ⟨w.heap.size, 3, none⟩ (.int .i64 sh)).setCell ⟨w.heap.size, 4, none⟩ (.int .i64 tl)).setCell ⟨w.heap.size, 5, none⟩ (.int .i64 th)).cell? ⟨wd2.heap.size, 0, none⟩ = some (.int .i64 dl) := ((so (by omega)).trans ((so (by omega)).trans ((so (by omega)).trans ((so (by omega)).trans ((so (by omega)).trans ((so (by omega)).trans K0))))))
 replace K1 : ((((((Z2x2.setCell ⟨w.heap.size, 0, none⟩ (.int .i64 dl)).setCell ⟨w.heap.size, 1, none⟩ (.int .i64 dh)).setCell ⟨w.heap.size, 2, none⟩ (.int .i64 sl)).setCell ⟨w.heap.size, 3, none⟩ (.int .i64 sh)).setCell ⟨w.heap.size, 4, none⟩ (.int .i64 tl)).setCell ⟨w.heap.size, 5, none⟩ (.int .i64 th)).cell? ⟨wd2.heap.size, 1, none⟩ = some (.int .i64 dh) := ((so (by omega)).trans ((so (by omega)).trans ((so (by omega)).trans ((so (by omega)).trans ((so (by omega)).trans ((so (by omega)).trans K1))))))
 replace K2 : ((((((Z2x2.setCell ⟨w.heap.size, 0, none⟩ (.int .i64 dl)).setCell ⟨w.heap.size, 1, none⟩ (.int .i64 dh)).setCell ⟨w.heap.size, 2, none⟩ (.int .i64 sl)).setCell ⟨w.heap.size, 3, none⟩ (.int .i64 sh)).setCell ⟨w.heap.size, 4, none⟩ (.int .i64 tl)).setCell ⟨w.heap.size, 5, none⟩ (.int .i64 th)).cell? ⟨wd2.heap.size, 2, none⟩ = some (.int .i64 sl) := ((so (by omega)).trans ((so (by omega)).trans ((so (by omega)).trans ((so (by omega)).trans ((so (by omega)).trans ((so (by omega)).trans K2))))))
 replace K3 : ((((((Z2x2.setCell ⟨w.heap.size, 0, none⟩ (.int .i64 dl)).setCell ⟨w.heap.size, 1, none⟩ (.int .i64 dh)).setCell ⟨w.heap.size, 2, none⟩ (.int .i64 sl)).setCell ⟨w.heap.size, 3, none⟩ (.int .i64 sh)).setCell ⟨w.heap.size, 4, none⟩ (.int .i64 tl)).setCell ⟨w.heap.size, 5, none⟩ (.int .i64 th)).cell? ⟨wd2.heap.size, 3, none⟩ = some (.int .i64 sh) := ((so (by omega)).trans ((so (by omega)).trans ((so (by omega)).trans ((so (by omega)).trans ((so (by omega)).trans ((so (by omega)).trans K3))))))
 replace K4 : ((((((Z2x2.setCell ⟨w.heap.size, 0, none⟩ (.int .i64 dl)).setCell ⟨w.heap.size, 1, none⟩ (.int .i64 dh)).setCell ⟨w.heap.size, 2, none⟩ (.int .i64 sl)).setCell ⟨w.heap.size, 3, none⟩ (.int .i64 sh)).setCell ⟨w.heap.size, 4, none⟩ (.int .i64 tl)).setCell ⟨w.heap.size, 5, none⟩ (.int .i64 th)).cell? ⟨wd2.heap.size, 4, none⟩ = some (.int .i64 tl) := ((so (by omega)).trans ((so (by omega)).trans ((so (by omega)).trans ((so (by omega)).trans ((so (by omega)).trans ((so (by omega)).trans K4))))))
 replace K5 : ((((((Z2x2.setCell ⟨w.heap.size, 0, none⟩ (.int .i64 dl)).setCell ⟨w.heap.size, 1, none⟩ (.int .i64 dh)).setCell ⟨w.heap.size, 2, none⟩ (.int .i64 sl)).setCell ⟨w.heap.size, 3, none⟩ (.int .i64 sh)).setCell ⟨w.heap.size, 4, none⟩ (.int .i64 tl)).setCell ⟨w.heap.size, 5, none⟩ (.int .i64 th)).cell? ⟨wd2.heap.size, 5, none⟩ = some (.int .i64 th) := ((so (by omega)).trans ((so (by omega)).trans ((so (by omega)).trans ((so (by omega)).trans ((so (by omega)).trans ((so (by omega)).trans K5))))))
 replace np : b < ((((((Z2x2.setCell ⟨w.heap.size, 0, none⟩ (.int .i64 dl)).setCell ⟨w.heap.size, 1, none⟩ (.int .i64 dh)).setCell ⟨w.heap.size, 2, none⟩ (.int .i64 sl)).setCell ⟨w.heap.size, 3, none⟩ (.int .i64 sh)).setCell ⟨w.heap.size, 4, none⟩ (.int .i64 tl)).setCell ⟨w.heap.size, 5, none⟩ (.int .i64 th)).heap.size := by simpa [World.setCell] using np
 replace nr : w.heap.size < ((((((Z2x2.setCell ⟨w.heap.size, 0, none⟩ (.int .i64 dl)).setCell ⟨w.heap.size, 1, none⟩ (.int .i64 dh)).setCell ⟨w.heap.size, 2, none⟩ (.int .i64 sl)).setCell ⟨w.heap.size, 3, none⟩ (.int .i64 sh)).setCell ⟨w.heap.size, 4, none⟩ (.int .i64 tl)).setCell ⟨w.heap.size, 5, none⟩ (.int .i64 th)).heap.size := by simpa [World.setCell] using nr
 replace nK : wd2.heap.size < ((((((Z2x2.setCell ⟨w.heap.size, 0, none⟩ (.int .i64 dl)).setCell ⟨w.heap.size, 1, none⟩ (.int .i64 dh)).setCell ⟨w.heap.size, 2, none⟩ (.int .i64 sl)).setCell ⟨w.heap.size, 3, none⟩ (.int .i64 sh)).setCell ⟨w.heap.size, 4, none⟩ (.int .i64 tl)).setCell ⟨w.heap.size, 5, none⟩ (.int .i64 th)).heap.size := by simpa [World.setCell] using nK
 replace hL := hL.setCell (p := ⟨w.heap.size, 0, none⟩) (by show w.heap.size ≤ w.heap.size; omega) (.int .i64 dl)
 replace hL := hL.setCell (p := ⟨w.heap.size, 1, none⟩) (by show w.heap.size ≤ w.heap.size; omega) (.int .i64 dh)
 replace hL := hL.setCell (p := ⟨w.heap.size, 2, none⟩) (by show w.heap.size ≤ w.heap.size; omega) (.int .i64 sl)
 replace hL := hL.setCell (p := ⟨w.heap.size, 3, none⟩) (by show w.heap.size ≤ w.heap.size; omega) (.int .i64 sh)
 replace hL := hL.setCell (p := ⟨w.heap.size, 4, none⟩) (by show w.heap.size ≤ w.heap.size; omega) (.int .i64 tl)
 replace hL := hL.setCell (p := ⟨w.heap.size, 5, none⟩) (by show w.heap.size ≤ w.heap.size; omega) (.int .i64 th)
 refine hK.out _ _ ⟨p0, p1, p4, p5, p6, p7, trivial⟩ (fun hHeld => ?_)
 clear hK K
 try simp only [Act.put, sA, sB, sC]
 refine wpAnyH_done (by kernel_rfl) ?_ _
 replace hB := hB.trans hL
 clear hHeld hL hBW
 go_wp2_with fail
 refine bodyPost_ret (v := .agg #[.int .i64 dl, .int .i64 dh, .int .i64 sl, .int .i64 sh, .int .i64 tl, .int .i64 th]) (by simp [results, Tryz.results97, go_sem, r0, r1, r2, r3, r4, r5, fr0, fr1, fr2, fr3, fr4, fr5]) rfl ⟨rfl, hB⟩
theorem idxPt0 (x y z : Int) (w : World) : (Instr.index 162 (.agg #[.int .i64 x, .int .i64 y, .int .i64 z]) (.int .i64 0)).run Tryz.prog w = .ok (.int .i64 x) w := by kernel_rfl
theorem idxPt1 (x y z : Int) (w : World) : (Instr.index 162 (.agg #[.int .i64 x, .int .i64 y, .int .i64 z]) (.int .i64 1)).run Tryz.prog w = .ok (.int .i64 y) w := by kernel_rfl
theorem idxPt2 (x y z : Int) (w : World) : (Instr.index 162 (.agg #[.int .i64 x, .int .i64 y, .int .i64 z]) (.int .i64 2)).run Tryz.prog w = .ok (.int .i64 z) w := by kernel_rfl

set_option maxRecDepth 20000 in
set_option maxHeartbeats 4000000 in
theorem has_any (a0 b0 a1 b1 a2 b2 x y z : Int) (w : World) : Calls Tryz.prog 127 #[.agg #[.int .i64 a0, .int .i64 b0, .int .i64 a1, .int .i64 b1, .int .i64 a2, .int .i64 b2], .agg #[.int .i64 x, .int .i64 y, .int .i64 z]] w fun e w' => e = .returned (.bool (inB a0 b0 x && inB a1 b1 y && inB a2 b2 z)) ∧ Below w.heap.size w w' := by
 have C0 := Lib.hid (fun (W : World) (g c : Nat) => jin1v_any a0 b0 x g c W)
 have C1 := Lib.hid (fun (W : World) (g c : Nat) => jin1v_any a1 b1 y g c W)
 have C2 := Lib.hid (fun (W : World) (g c : Nat) => jin1v_any a2 b2 z g c W)
 generalize inB a0 b0 x = z0 at *
 generalize inB a1 b1 y = z1 at *
 generalize inB a2 b2 z = z2 at *
 go_enter Tryz.func127, Tryz.ntmps127
 go_wp2_with fail
 go_loopw [8] (fun i wr => ∃ k : Nat, k ≤ 3 ∧ i = .int .i64 k ∧ (0 < k → z0 = true) ∧ (1 < k → z1 = true) ∧ (2 < k → z2 = true) ∧ Below w.heap.size w wr ∧ w.heap.size < wr.heap.size ∧ wr.cell? ⟨w.heap.size, 0, none⟩ = some (.int .i64 a0) ∧ wr.cell? ⟨w.heap.size, 1, none⟩ = some (.int .i64 b0) ∧ wr.cell? ⟨w.heap.size, 2, none⟩ = some (.int .i64 a1) ∧ wr.cell? ⟨w.heap.size, 3, none⟩ = some (.int .i64 b1) ∧ wr.cell? ⟨w.heap.size, 4, none⟩ = some (.int .i64 a2) ∧ wr.cell? ⟨w.heap.size, 5, none⟩ = some (.int .i64 b2)) (fun i _ => 3 - (RowKit.intOf i).toNat)
 case atStart =>
  refine ⟨0, Nat.zero_le _, rfl, fun h => absurd h (by omega), fun h => absurd h (by omega), fun h => absurd h (by omega), ((Below.refl _ _).alloc (Nat.le_refl _) _).alloc (by simp) _, by simp <;> omega, ?_, ?_, ?_, ?_, ?_, ?_⟩ <;> simp [go_sem]
 case round =>
  obtain ⟨k, hk, rfl, e0, e1, e2, hbr, nc, c0, c1, c2, c3, c4, c5⟩ := hrel
  obtain rfl | rfl | rfl | rfl : k = 0 ∨ k = 1 ∨ k = 2 ∨ k = 3 := by omega
  ·clear e0 e1 e2
   have hix := idxPt0 x y z
   go_wp2_with fail
   have hBW := hbr.size
   refine wp_region_held_drew (S := fun w' => w'.cell? ⟨w.heap.size, 0, none⟩ = some (.int .i64 a0) ∧ w'.cell? ⟨w.heap.size, 1, none⟩ = some (.int .i64 b0) ∧ True) (by kernel_rfl) ?_ (fun hHeld => ?_)
   focus (exact ⟨c0, c1, trivial⟩)
   have hL : Below w.heap.size wr wr.drew := Below.drew (Below.refl _ _)
   replace c0 : wr.drew.cell? ⟨w.heap.size, 0, none⟩ = some (.int .i64 a0) := c0
   replace c1 : wr.drew.cell? ⟨w.heap.size, 1, none⟩ = some (.int .i64 b0) := c1
   replace c2 : wr.drew.cell? ⟨w.heap.size, 2, none⟩ = some (.int .i64 a1) := c2
   replace c3 : wr.drew.cell? ⟨w.heap.size, 3, none⟩ = some (.int .i64 b1) := c3
   replace c4 : wr.drew.cell? ⟨w.heap.size, 4, none⟩ = some (.int .i64 a2) := c4
   replace c5 : wr.drew.cell? ⟨w.heap.size, 5, none⟩ = some (.int .i64 b2) := c5
   replace nc : w.heap.size < wr.drew.heap.size := nc
   generalize hWd : wr.drew = wd at hHeld hL c0 c1 c2 c3 c4 c5 nc  ⊢
   clear hWd
   refine tq 0 12 ?_ ?_ ?_; rotate_left; (focus intro w h; (try dsimp only at h); go_simp; try with_reducible rfl); try simp only [sA, sB, sC]
   refine tq 1 13 ?_ ?_ ?_; rotate_left; (focus intro w h; (try dsimp only at h); go_simp; try with_reducible rfl); try simp only [sA, sB, sC]
   refine tq 2 14 ?_ ?_ ?_; rotate_left; (focus intro w h; (try dsimp only at h); go_simp; try with_reducible rfl); try simp only [sA, sB, sC]
   refine tq 3 15 ?_ ?_ ?_; rotate_left; (focus intro w h; (try dsimp only at h); go_simp; try with_reducible rfl); try simp only [sA, sB, sC]
   refine tq 4 16 ?_ ?_ ?_; rotate_left; (focus intro w h; (try dsimp only at h); go_simp; try with_reducible rfl); try simp only [sA, sB, sC]
   refine tq 5 17 ?_ ?_ ?_; rotate_left; (focus intro w h; (try dsimp only at h); go_simp; try with_reducible rfl); try simp only [sA, sB, sC]
   refine tq 6 18 ?_ ?_ ?_; rotate_left; (focus intro w h; (try dsimp only at h); go_simp; try with_reducible rfl); try simp only [sA, sB, sC]
   refine tq 7 19 ?_ ?_ ?_; rotate_left; (focus intro w h; (try dsimp only at h); go_simp; try with_reducible rfl); try simp only [sA, sB, sC]
   refine tq 8 20 ?_ ?_ ?_; rotate_left; (focus intro w h; (try dsimp only at h); go_simp; try with_reducible rfl); try simp only [sA, sB, sC]
   refine rd1 9 (fun K hK => ?_)
   go_simp
   have hb := (Below.refl wd.heap.size wd).alloc (Nat.le_refl _) (Obj.cells #[.int .i64 x] 3)
   have szZ1 := hL.size
   have ord1nc := nc
   replace c0 := cell_next hb nc c0
   replace c1 := cell_next hb nc c1
   replace c2 := cell_next hb nc c2
   replace c3 := cell_next hb nc c3
   replace c4 := cell_next hb nc c4
   replace c5 := cell_next hb nc c5
   replace nc := Nat.lt_of_lt_of_le nc hb.size
   replace hL := hL.trans (hb.mono (Nat.le_trans hBW hL.size))
   have K0 : (wd.alloc (Obj.cells #[.int .i64 x] 3)).cell? ⟨wd.heap.size, 0, none⟩ = some (.int .i64 x) := cell_new _ _ _ 0
   have nK : wd.heap.size < (wd.alloc (Obj.cells #[.int .i64 x] 3)).heap.size := by simp
   refine hK.out _ _ ⟨c0, c1, trivial⟩ (fun hHeld => ?_)
   clear hK K hb
   generalize wd.alloc (Obj.cells #[.int .i64 x] 3) = Z1 at *
   try simp only [Act.put, sA, sB, sC]
   refine rd1 10 (fun K hK => ?_)
   go_simp
   refine (C0.out _ _ _ nK K0).mono ?_
   rintro e Z2 ⟨rfl, hb⟩
   replace c0 := cell_next hb nc c0
   replace c1 := cell_next hb nc c1
   replace c2 := cell_next hb nc c2
   replace c3 := cell_next hb nc c3
   replace c4 := cell_next hb nc c4
   replace c5 := cell_next hb nc c5
   replace K0 := cell_next hb nK K0
   replace nc := Nat.lt_of_lt_of_le nc hb.size
   replace nK := Nat.lt_of_lt_of_le nK hb.size
   replace hL := hL.trans (hb.mono (Nat.le_trans hBW hL.size))
   refine hK.out _ _ ⟨c0, c1, trivial⟩ (fun hHeld => ?_)
   clear hK K hb
   try simp only [Act.put, sA, sB, sC]
   refine tq 11 23 ?_ ?_ ?_; rotate_left; (focus intro w h; (try dsimp only at h); go_simp; try with_reducible rfl); try simp only [sA, sB, sC]
   refine wpAnyH_done (by kernel_rfl) ?_ _
   have hB := hbr.trans hL
   clear hHeld hL hBW
   cases z0
   ·go_wp2_with fail
    go_ret
    exact ⟨by simp, hB⟩
   ·go_wp2_with fail
    go_roundw
    case rel => exact ⟨1, by omega, by go_num, fun _ => by first | rfl | trivial, fun h => absurd h (by omega), fun h => absurd h (by omega), hB, nc, c0, c1, c2, c3, c4, c5⟩
    case measure => simp [RowKit.intOf]
  ·obtain rfl := e0 (by omega)
   clear e0 e1 e2
   have hix := idxPt1 x y z
   go_wp2_with fail
   have hBW := hbr.size
   refine wp_region_held_drew (S := fun w' => w'.cell? ⟨w.heap.size, 2, none⟩ = some (.int .i64 a1) ∧ w'.cell? ⟨w.heap.size, 3, none⟩ = some (.int .i64 b1) ∧ True) (by kernel_rfl) ?_ (fun hHeld => ?_)
   focus (exact ⟨c2, c3, trivial⟩)
   have hL : Below w.heap.size wr wr.drew := Below.drew (Below.refl _ _)
   replace c0 : wr.drew.cell? ⟨w.heap.size, 0, none⟩ = some (.int .i64 a0) := c0
   replace c1 : wr.drew.cell? ⟨w.heap.size, 1, none⟩ = some (.int .i64 b0) := c1
   replace c2 : wr.drew.cell? ⟨w.heap.size, 2, none⟩ = some (.int .i64 a1) := c2
   replace c3 : wr.drew.cell? ⟨w.heap.size, 3, none⟩ = some (.int .i64 b1) := c3
   replace c4 : wr.drew.cell? ⟨w.heap.size, 4, none⟩ = some (.int .i64 a2) := c4
   replace c5 : wr.drew.cell? ⟨w.heap.size, 5, none⟩ = some (.int .i64 b2) := c5
   replace nc : w.heap.size < wr.drew.heap.size := nc
   generalize hWd : wr.drew = wd at hHeld hL c0 c1 c2 c3 c4 c5 nc  ⊢
   clear hWd
   refine tq 0 12 ?_ ?_ ?_; rotate_left; (focus intro w h; (try dsimp only at h); go_simp; try with_reducible rfl); try simp only [sA, sB, sC]
   refine tq 1 13 ?_ ?_ ?_; rotate_left; (focus intro w h; (try dsimp only at h); go_simp; try with_reducible rfl); try simp only [sA, sB, sC]
   refine tq 2 14 ?_ ?_ ?_; rotate_left; (focus intro w h; (try dsimp only at h); go_simp; try with_reducible rfl); try simp only [sA, sB, sC]
   refine tq 3 15 ?_ ?_ ?_; rotate_left; (focus intro w h; (try dsimp only at h); go_simp; try with_reducible rfl); try simp only [sA, sB, sC]
   refine tq 4 16 ?_ ?_ ?_; rotate_left; (focus intro w h; (try dsimp only at h); go_simp; try with_reducible rfl); try simp only [sA, sB, sC]
   refine tq 5 17 ?_ ?_ ?_; rotate_left; (focus intro w h; (try dsimp only at h); go_simp; try with_reducible rfl); try simp only [sA, sB, sC]
   refine tq 6 18 ?_ ?_ ?_; rotate_left; (focus intro w h; (try dsimp only at h); go_simp; try with_reducible rfl); try simp only [sA, sB, sC]
   refine tq 7 19 ?_ ?_ ?_; rotate_left; (focus intro w h; (try dsimp only at h); go_simp; try with_reducible rfl); try simp only [sA, sB, sC]
   refine tq 8 20 ?_ ?_ ?_; rotate_left; (focus intro w h; (try dsimp only at h); go_simp; try with_reducible rfl); try simp only [sA, sB, sC]
   refine rd1 9 (fun K hK => ?_)
   go_simp
   have hb := (Below.refl wd.heap.size wd).alloc (Nat.le_refl _) (Obj.cells #[.int .i64 y] 3)
   have szZ1 := hL.size
   have ord1nc := nc
   replace c0 := cell_next hb nc c0
   replace c1 := cell_next hb nc c1
   replace c2 := cell_next hb nc c2
   replace c3 := cell_next hb nc c3
   replace c4 := cell_next hb nc c4
   replace c5 := cell_next hb nc c5
   replace nc := Nat.lt_of_lt_of_le nc hb.size
   replace hL := hL.trans (hb.mono (Nat.le_trans hBW hL.size))
   have K0 : (wd.alloc (Obj.cells #[.int .i64 y] 3)).cell? ⟨wd.heap.size, 0, none⟩ = some (.int .i64 y) := cell_new _ _ _ 0
   have nK : wd.heap.size < (wd.alloc (Obj.cells #[.int .i64 y] 3)).heap.size := by simp
   refine hK.out _ _ ⟨c2, c3, trivial⟩ (fun hHeld => ?_)
   clear hK K hb
   generalize wd.alloc (Obj.cells #[.int .i64 y] 3) = Z1 at *
   try simp only [Act.put, sA, sB, sC]
   refine rd1 10 (fun K hK => ?_)
   go_simp
   refine (C1.out _ _ _ nK K0).mono ?_
   rintro e Z2 ⟨rfl, hb⟩
   replace c0 := cell_next hb nc c0
   replace c1 := cell_next hb nc c1
   replace c2 := cell_next hb nc c2
   replace c3 := cell_next hb nc c3
   replace c4 := cell_next hb nc c4
   replace c5 := cell_next hb nc c5
   replace K0 := cell_next hb nK K0
   replace nc := Nat.lt_of_lt_of_le nc hb.size
   replace nK := Nat.lt_of_lt_of_le nK hb.size
   replace hL := hL.trans (hb.mono (Nat.le_trans hBW hL.size))
   refine hK.out _ _ ⟨c2, c3, trivial⟩ (fun hHeld => ?_)
   clear hK K hb
   try simp only [Act.put, sA, sB, sC]
   refine tq 11 23 ?_ ?_ ?_; rotate_left; (focus intro w h; (try dsimp only at h); go_simp; try with_reducible rfl); try simp only [sA, sB, sC]
   refine wpAnyH_done (by kernel_rfl) ?_ _
   have hB := hbr.trans hL
   clear hHeld hL hBW
   cases z1
   ·go_wp2_with fail
    go_ret
    exact ⟨by simp, hB⟩
   ·go_wp2_with fail
    go_roundw
    case rel => exact ⟨2, by omega, by go_num, fun _ => by first | rfl | trivial, fun _ => by first | rfl | trivial, fun h => absurd h (by omega), hB, nc, c0, c1, c2, c3, c4, c5⟩
    case measure => simp [RowKit.intOf]
  ·obtain rfl := e0 (by omega)
   obtain rfl := e1 (by omega)
   clear e0 e1 e2
   have hix := idxPt2 x y z
   go_wp2_with fail
   have hBW := hbr.size
   refine wp_region_held_drew (S := fun w' => w'.cell? ⟨w.heap.size, 4, none⟩ = some (.int .i64 a2) ∧ w'.cell? ⟨w.heap.size, 5, none⟩ = some (.int .i64 b2) ∧ True) (by kernel_rfl) ?_ (fun hHeld => ?_)
   focus (exact ⟨c4, c5, trivial⟩)
   have hL : Below w.heap.size wr wr.drew := Below.drew (Below.refl _ _)
   replace c0 : wr.drew.cell? ⟨w.heap.size, 0, none⟩ = some (.int .i64 a0) := c0
   replace c1 : wr.drew.cell? ⟨w.heap.size, 1, none⟩ = some (.int .i64 b0) := c1
   replace c2 : wr.drew.cell? ⟨w.heap.size, 2, none⟩ = some (.int .i64 a1) := c2
   replace c3 : wr.drew.cell? ⟨w.heap.size, 3, none⟩ = some (.int .i64 b1) := c3
   replace c4 : wr.drew.cell? ⟨w.heap.size, 4, none⟩ = some (.int .i64 a2) := c4
   replace c5 : wr.drew.cell? ⟨w.heap.size, 5, none⟩ = some (.int .i64 b2) := c5
   replace nc : w.heap.size < wr.drew.heap.size := nc
   generalize hWd : wr.drew = wd at hHeld hL c0 c1 c2 c3 c4 c5 nc  ⊢
   clear hWd
   refine tq 0 12 ?_ ?_ ?_; rotate_left; (focus intro w h; (try dsimp only at h); go_simp; try with_reducible rfl); try simp only [sA, sB, sC]
   refine tq 1 13 ?_ ?_ ?_; rotate_left; (focus intro w h; (try dsimp only at h); go_simp; try with_reducible rfl); try simp only [sA, sB, sC]
   refine tq 2 14 ?_ ?_ ?_; rotate_left; (focus intro w h; (try dsimp only at h); go_simp; try with_reducible rfl); try simp only [sA, sB, sC]
   refine tq 3 15 ?_ ?_ ?_; rotate_left; (focus intro w h; (try dsimp only at h); go_simp; try with_reducible rfl); try simp only [sA, sB, sC]
   refine tq 4 16 ?_ ?_ ?_; rotate_left; (focus intro w h; (try dsimp only at h); go_simp; try with_reducible rfl); try simp only [sA, sB, sC]
   refine tq 5 17 ?_ ?_ ?_; rotate_left; (focus intro w h; (try dsimp only at h); go_simp; try with_reducible rfl); try simp only [sA, sB, sC]
   refine tq 6 18 ?_ ?_ ?_; rotate_left; (focus intro w h; (try dsimp only at h); go_simp; try with_reducible rfl); try simp only [sA, sB, sC]
   refine tq 7 19 ?_ ?_ ?_; rotate_left; (focus intro w h; (try dsimp only at h); go_simp; try with_reducible rfl); try simp only [sA, sB, sC]
   refine tq 8 20 ?_ ?_ ?_; rotate_left; (focus intro w h; (try dsimp only at h); go_simp; try with_reducible rfl); try simp only [sA, sB, sC]
   refine rd1 9 (fun K hK => ?_)
   go_simp
   have hb := (Below.refl wd.heap.size wd).alloc (Nat.le_refl _) (Obj.cells #[.int .i64 z] 3)
   have szZ1 := hL.size
   have ord1nc := nc
   replace c0 := cell_next hb nc c0
   replace c1 := cell_next hb nc c1
   replace c2 := cell_next hb nc c2
   replace c3 := cell_next hb nc c3
   replace c4 := cell_next hb nc c4
   replace c5 := cell_next hb nc c5
   replace nc := Nat.lt_of_lt_of_le nc hb.size
   replace hL := hL.trans (hb.mono (Nat.le_trans hBW hL.size))
   have K0 : (wd.alloc (Obj.cells #[.int .i64 z] 3)).cell? ⟨wd.heap.size, 0, none⟩ = some (.int .i64 z) := cell_new _ _ _ 0
   have nK : wd.heap.size < (wd.alloc (Obj.cells #[.int .i64 z] 3)).heap.size := by simp
   refine hK.out _ _ ⟨c4, c5, trivial⟩ (fun hHeld => ?_)
   clear hK K hb
   generalize wd.alloc (Obj.cells #[.int .i64 z] 3) = Z1 at *
   try simp only [Act.put, sA, sB, sC]
   refine rd1 10 (fun K hK => ?_)
   go_simp
   refine (C2.out _ _ _ nK K0).mono ?_
   rintro e Z2 ⟨rfl, hb⟩
   replace c0 := cell_next hb nc c0
   replace c1 := cell_next hb nc c1
   replace c2 := cell_next hb nc c2
   replace c3 := cell_next hb nc c3
   replace c4 := cell_next hb nc c4
   replace c5 := cell_next hb nc c5
   replace K0 := cell_next hb nK K0
   replace nc := Nat.lt_of_lt_of_le nc hb.size
   replace nK := Nat.lt_of_lt_of_le nK hb.size
   replace hL := hL.trans (hb.mono (Nat.le_trans hBW hL.size))
   refine hK.out _ _ ⟨c4, c5, trivial⟩ (fun hHeld => ?_)
   clear hK K hb
   try simp only [Act.put, sA, sB, sC]
   refine tq 11 23 ?_ ?_ ?_; rotate_left; (focus intro w h; (try dsimp only at h); go_simp; try with_reducible rfl); try simp only [sA, sB, sC]
   refine wpAnyH_done (by kernel_rfl) ?_ _
   have hB := hbr.trans hL
   clear hHeld hL hBW
   cases z2
   ·go_wp2_with fail
    go_ret
    exact ⟨by simp, hB⟩
   ·go_wp2_with fail
    go_roundw
    case rel => exact ⟨3, by omega, by go_num, fun _ => by first | rfl | trivial, fun _ => by first | rfl | trivial, fun _ => by first | rfl | trivial, hB, nc, c0, c1, c2, c3, c4, c5⟩
    case measure => simp [RowKit.intOf]
  ·obtain rfl := e0 (by omega)
   obtain rfl := e1 (by omega)
   obtain rfl := e2 (by omega)
   clear e0 e1 e2
   go_wp2_with fail
   go_ret
   exact ⟨rfl, hbr⟩
end Go.Proofs.YtgklpbgdimkhaaaGreat
