/- Contracts of package candy: which product a truth is; the steps of a cube. -/
import Derived.Test.YtgklpbgdimkhaaaGreatJ8
namespace Go.Proofs.YtgklpbgdimkhaaaGreat
open Go.RowKit Go.Lib Go.Shelf
set_option linter.unusedVariables false
set_option linter.unusedSimpArgs false
attribute [local go_sem ↓] Go.wp_at_zero Go.wp_at_succ


/-- whether a truth is a product -/
def prB (sd x y z : Int) (p : Pd) : Bool := decide (p.se ≤ sd) && (inB p.dl p.dh x && inB p.sl p.sh y && inB p.tl p.th z)

set_option maxRecDepth 20000 in
set_option maxHeartbeats 1000000 in
theorem prod1_any (p : Pd) (sd x y z : Int) (b B1 B2 : Nat) (w : World) (nk : b < w.heap.size) (ne : B1 < w.heap.size) (nq : B2 < w.heap.size) (e0 : w.cell? ⟨B1, 0, none⟩ = some (.pointer (some ⟨b, 0, none⟩))) (k9 : w.cell? ⟨b, 9, none⟩ = some (.int .i64 sd))
  (q0 : w.cell? ⟨B2, 0, none⟩ = some (.int .i64 x)) (q1 : w.cell? ⟨B2, 1, none⟩ = some (.int .i64 y)) (q2 : w.cell? ⟨B2, 2, none⟩ = some (.int .i64 z)) :
  Calls Tryz.prog 126 #[.agg (cPd p).toArray, .pointer (some ⟨B1, 0, none⟩), .pointer (some ⟨B2, 0, none⟩)] w fun e w' => e = .returned (.bool (prB sd x y z p)) ∧ Below w.heap.size w w' := by
 obtain ⟨dl, dh, sl, sh, tl, th, se, wo⟩ := p
 have C1 := Lib.hid (fun (W : World) => cubeOf_any ⟨dl, dh, sl, sh, tl, th, se, wo⟩ W)
 have C2 := Lib.hid (fun (W : World) => has_any dl dh sl sh tl th x y z W)
 dsimp only [cPd, cubB, prB] at *
 generalize (inB dl dh x && inB sl sh y && inB tl th z) = z1 at *
 obtain ⟨d, hd⟩ : ∃ d, decide (se ≤ sd) = d := ⟨_, rfl⟩
 rw [hd]
 go_enter Tryz.func126, Tryz.ntmps126
 go_wp2_with fail
 have hb : Below w.heap.size w (w.alloc (Obj.cells #[.int .i64 dl, .int .i64 dh, .int .i64 sl, .int .i64 sh, .int .i64 tl, .int .i64 th, .int .i64 se, .int .i64 wo] 41)) := ((Below.refl _ _).alloc (Nat.le_refl _) _)
 replace e0 := cell_next hb ne e0
 replace ne := Nat.lt_of_lt_of_le ne hb.size
 replace k9 := cell_next hb nk k9
 replace nk := Nat.lt_of_lt_of_le nk hb.size
 replace q0 := cell_next hb nq q0
 replace q1 := cell_next hb nq q1
 replace q2 := cell_next hb nq q2
 replace nq := Nat.lt_of_lt_of_le nq hb.size
 have p0 : (w.alloc (Obj.cells #[.int .i64 dl, .int .i64 dh, .int .i64 sl, .int .i64 sh, .int .i64 tl, .int .i64 th, .int .i64 se, .int .i64 wo] 41)).cell? ⟨w.heap.size, 0, none⟩ = some (.int .i64 dl) := by simp [go_sem]
 have p1 : (w.alloc (Obj.cells #[.int .i64 dl, .int .i64 dh, .int .i64 sl, .int .i64 sh, .int .i64 tl, .int .i64 th, .int .i64 se, .int .i64 wo] 41)).cell? ⟨w.heap.size, 1, none⟩ = some (.int .i64 dh) := by simp [go_sem]
 have p2 : (w.alloc (Obj.cells #[.int .i64 dl, .int .i64 dh, .int .i64 sl, .int .i64 sh, .int .i64 tl, .int .i64 th, .int .i64 se, .int .i64 wo] 41)).cell? ⟨w.heap.size, 2, none⟩ = some (.int .i64 sl) := by simp [go_sem]
 have p3 : (w.alloc (Obj.cells #[.int .i64 dl, .int .i64 dh, .int .i64 sl, .int .i64 sh, .int .i64 tl, .int .i64 th, .int .i64 se, .int .i64 wo] 41)).cell? ⟨w.heap.size, 3, none⟩ = some (.int .i64 sh) := by simp [go_sem]
 have p4 : (w.alloc (Obj.cells #[.int .i64 dl, .int .i64 dh, .int .i64 sl, .int .i64 sh, .int .i64 tl, .int .i64 th, .int .i64 se, .int .i64 wo] 41)).cell? ⟨w.heap.size, 4, none⟩ = some (.int .i64 tl) := by simp [go_sem]
 have p5 : (w.alloc (Obj.cells #[.int .i64 dl, .int .i64 dh, .int .i64 sl, .int .i64 sh, .int .i64 tl, .int .i64 th, .int .i64 se, .int .i64 wo] 41)).cell? ⟨w.heap.size, 5, none⟩ = some (.int .i64 th) := by simp [go_sem]
 have p6 : (w.alloc (Obj.cells #[.int .i64 dl, .int .i64 dh, .int .i64 sl, .int .i64 sh, .int .i64 tl, .int .i64 th, .int .i64 se, .int .i64 wo] 41)).cell? ⟨w.heap.size, 6, none⟩ = some (.int .i64 se) := by simp [go_sem]
 have p7 : (w.alloc (Obj.cells #[.int .i64 dl, .int .i64 dh, .int .i64 sl, .int .i64 sh, .int .i64 tl, .int .i64 th, .int .i64 se, .int .i64 wo] 41)).cell? ⟨w.heap.size, 7, none⟩ = some (.int .i64 wo) := by simp [go_sem]
 have np : w.heap.size < (w.alloc (Obj.cells #[.int .i64 dl, .int .i64 dh, .int .i64 sl, .int .i64 sh, .int .i64 tl, .int .i64 th, .int .i64 se, .int .i64 wo] 41)).heap.size := by simp <;> omega
 have hB := hb
 clear hb
 generalize (w.alloc (Obj.cells #[.int .i64 dl, .int .i64 dh, .int .i64 sl, .int .i64 sh, .int .i64 tl, .int .i64 th, .int .i64 se, .int .i64 wo] 41)) = W1 at *
 cases d
 ·have hBW : W1.heap.size ≤ W1.heap.size := Nat.le_refl _
  refine wp_region_held_drew (S := fun w' => w'.cell? ⟨w.heap.size, 0, none⟩ = some (.int .i64 dl) ∧ w'.cell? ⟨w.heap.size, 1, none⟩ = some (.int .i64 dh) ∧ w'.cell? ⟨w.heap.size, 2, none⟩ = some (.int .i64 sl) ∧ w'.cell? ⟨w.heap.size, 3, none⟩ = some (.int .i64 sh) ∧ w'.cell? ⟨w.heap.size, 4, none⟩ = some (.int .i64 tl) ∧ w'.cell? ⟨w.heap.size, 5, none⟩ = some (.int .i64 th) ∧ w'.cell? ⟨w.heap.size, 6, none⟩ = some (.int .i64 se) ∧ w'.cell? ⟨w.heap.size, 7, none⟩ = some (.int .i64 wo) ∧ w'.cell? ⟨B1, 0, none⟩ = some (.pointer (some ⟨b, 0, none⟩)) ∧ w'.cell? ⟨b, 9, none⟩ = some (.int .i64 sd) ∧ w'.cell? ⟨B2, 0, none⟩ = some (.int .i64 x) ∧ w'.cell? ⟨B2, 1, none⟩ = some (.int .i64 y) ∧ w'.cell? ⟨B2, 2, none⟩ = some (.int .i64 z) ∧ True) (by kernel_rfl) ?_ (fun hHeld => ?_)
  focus (exact ⟨p0, p1, p2, p3, p4, p5, p6, p7, e0, k9, q0, q1, q2, trivial⟩)
  have hL : Below W1.heap.size W1 W1.drew := Below.drew (Below.refl _ _)
  replace e0 : W1.drew.cell? ⟨B1, 0, none⟩ = some (.pointer (some ⟨b, 0, none⟩)) := e0
  replace k9 : W1.drew.cell? ⟨b, 9, none⟩ = some (.int .i64 sd) := k9
  replace q0 : W1.drew.cell? ⟨B2, 0, none⟩ = some (.int .i64 x) := q0
  replace q1 : W1.drew.cell? ⟨B2, 1, none⟩ = some (.int .i64 y) := q1
  replace q2 : W1.drew.cell? ⟨B2, 2, none⟩ = some (.int .i64 z) := q2
  replace p0 : W1.drew.cell? ⟨w.heap.size, 0, none⟩ = some (.int .i64 dl) := p0
  replace p1 : W1.drew.cell? ⟨w.heap.size, 1, none⟩ = some (.int .i64 dh) := p1
  replace p2 : W1.drew.cell? ⟨w.heap.size, 2, none⟩ = some (.int .i64 sl) := p2
  replace p3 : W1.drew.cell? ⟨w.heap.size, 3, none⟩ = some (.int .i64 sh) := p3
  replace p4 : W1.drew.cell? ⟨w.heap.size, 4, none⟩ = some (.int .i64 tl) := p4
  replace p5 : W1.drew.cell? ⟨w.heap.size, 5, none⟩ = some (.int .i64 th) := p5
  replace p6 : W1.drew.cell? ⟨w.heap.size, 6, none⟩ = some (.int .i64 se) := p6
  replace p7 : W1.drew.cell? ⟨w.heap.size, 7, none⟩ = some (.int .i64 wo) := p7
  replace ne : B1 < W1.drew.heap.size := ne
  replace nk : b < W1.drew.heap.size := nk
  replace nq : B2 < W1.drew.heap.size := nq
  replace np : w.heap.size < W1.drew.heap.size := np
  generalize hWd : W1.drew = wd2 at hHeld hL e0 k9 q0 q1 q2 p0 p1 p2 p3 p4 p5 p6 p7 ne nk nq np  ⊢
  clear hWd
  refine tq 0 5 ?_ ?_ ?_; rotate_left; (focus intro w h; (try dsimp only at h); go_simp; try with_reducible rfl); try simp only [sA, sB, sC]
  refine tq 1 6 ?_ ?_ ?_; rotate_left; (focus intro w h; (try dsimp only at h); go_simp; try with_reducible rfl); try simp only [sA, sB, sC]
  refine tq 2 7 ?_ ?_ ?_; rotate_left; (focus intro w h; (try dsimp only at h); go_simp; try with_reducible rfl); try simp only [sA, sB, sC]
  refine tq 3 8 ?_ ?_ ?_; rotate_left; (focus intro w h; (try dsimp only at h); go_simp; try with_reducible rfl); try simp only [sA, sB, sC]
  refine tq 4 9 ?_ ?_ ?_; rotate_left; (focus intro w h; (try dsimp only at h); go_simp; try with_reducible rfl); try simp only [sA, sB, sC]
  refine tq 5 10 ?_ ?_ ?_; rotate_left; (focus intro w h; (try dsimp only at h); go_simp; try with_reducible rfl); try simp only [sA, sB, sC]
  refine tq 6 11 ?_ ?_ ?_; rotate_left; (focus intro w h; (try dsimp only at h); go_simp; try with_reducible rfl); try simp only [sA, sB, sC]
  refine tq 7 12 ?_ ?_ ?_; rotate_left; (focus intro w h; (try dsimp only at h); go_simp; try with_reducible rfl); try simp only [sA, sB, sC]
  refine tq 8 13 ?_ ?_ ?_; rotate_left; (focus intro w h; (try dsimp only at h); go_simp; try with_reducible rfl); try simp only [sA, sB, sC]
  refine take_slot (i := 9) (d := 14) (v := undef) rfl rfl (by kernel_rfl) (by kernel_rfl) (by kernel_rfl) (fun _ _ _ h => h) (Or.inr ⟨by rfl, rfl⟩) (by assumption) ?_
  try simp only [sA, sB, sC]
  refine take_slot (i := 10) (d := 15) (v := undef) rfl rfl (by kernel_rfl) (by kernel_rfl) (by kernel_rfl) (fun _ _ _ h => h) (Or.inr ⟨by rfl, rfl⟩) (by assumption) ?_
  try simp only [sA, sB, sC]
  refine take_slot (i := 11) (d := 16) (v := undef) rfl rfl (by kernel_rfl) (by kernel_rfl) (by kernel_rfl) (fun _ _ _ h => h) (Or.inr ⟨by rfl, rfl⟩) (by assumption) ?_
  try simp only [sA, sB, sC]
  refine take_slot (i := 12) (d := 17) (v := undef) rfl rfl (by kernel_rfl) (by kernel_rfl) (by kernel_rfl) (fun _ _ _ h => h) (Or.inr ⟨by rfl, rfl⟩) (by assumption) ?_
  try simp only [sA, sB, sC]
  refine tq 13 18 ?_ ?_ ?_; rotate_left; (focus intro w h; (try dsimp only at h); go_simp; try with_reducible rfl); try simp only [sA, sB, sC]
  refine tq 14 4 ?_ ?_ ?_; rotate_left; (focus intro w h; (try dsimp only at h); go_simp; try with_reducible rfl); try simp only [sA, sB, sC]
  refine wpAnyH_done (by kernel_rfl) ?_ _
  replace hB := hB.trans (hL.mono hB.size)
  clear hHeld hL hBW
  go_wp2_with fail
  go_ret
  exact ⟨by simp, hB⟩
 ·have hBW : W1.heap.size ≤ W1.heap.size := Nat.le_refl _
  refine wp_region_held_drew (S := fun w' => w'.cell? ⟨w.heap.size, 0, none⟩ = some (.int .i64 dl) ∧ w'.cell? ⟨w.heap.size, 1, none⟩ = some (.int .i64 dh) ∧ w'.cell? ⟨w.heap.size, 2, none⟩ = some (.int .i64 sl) ∧ w'.cell? ⟨w.heap.size, 3, none⟩ = some (.int .i64 sh) ∧ w'.cell? ⟨w.heap.size, 4, none⟩ = some (.int .i64 tl) ∧ w'.cell? ⟨w.heap.size, 5, none⟩ = some (.int .i64 th) ∧ w'.cell? ⟨w.heap.size, 6, none⟩ = some (.int .i64 se) ∧ w'.cell? ⟨w.heap.size, 7, none⟩ = some (.int .i64 wo) ∧ w'.cell? ⟨B1, 0, none⟩ = some (.pointer (some ⟨b, 0, none⟩)) ∧ w'.cell? ⟨b, 9, none⟩ = some (.int .i64 sd) ∧ w'.cell? ⟨B2, 0, none⟩ = some (.int .i64 x) ∧ w'.cell? ⟨B2, 1, none⟩ = some (.int .i64 y) ∧ w'.cell? ⟨B2, 2, none⟩ = some (.int .i64 z) ∧ True) (by kernel_rfl) ?_ (fun hHeld => ?_)
  focus (exact ⟨p0, p1, p2, p3, p4, p5, p6, p7, e0, k9, q0, q1, q2, trivial⟩)
  have hL : Below W1.heap.size W1 W1.drew := Below.drew (Below.refl _ _)
  replace e0 : W1.drew.cell? ⟨B1, 0, none⟩ = some (.pointer (some ⟨b, 0, none⟩)) := e0
  replace k9 : W1.drew.cell? ⟨b, 9, none⟩ = some (.int .i64 sd) := k9
  replace q0 : W1.drew.cell? ⟨B2, 0, none⟩ = some (.int .i64 x) := q0
  replace q1 : W1.drew.cell? ⟨B2, 1, none⟩ = some (.int .i64 y) := q1
  replace q2 : W1.drew.cell? ⟨B2, 2, none⟩ = some (.int .i64 z) := q2
  replace p0 : W1.drew.cell? ⟨w.heap.size, 0, none⟩ = some (.int .i64 dl) := p0
  replace p1 : W1.drew.cell? ⟨w.heap.size, 1, none⟩ = some (.int .i64 dh) := p1
  replace p2 : W1.drew.cell? ⟨w.heap.size, 2, none⟩ = some (.int .i64 sl) := p2
  replace p3 : W1.drew.cell? ⟨w.heap.size, 3, none⟩ = some (.int .i64 sh) := p3
  replace p4 : W1.drew.cell? ⟨w.heap.size, 4, none⟩ = some (.int .i64 tl) := p4
  replace p5 : W1.drew.cell? ⟨w.heap.size, 5, none⟩ = some (.int .i64 th) := p5
  replace p6 : W1.drew.cell? ⟨w.heap.size, 6, none⟩ = some (.int .i64 se) := p6
  replace p7 : W1.drew.cell? ⟨w.heap.size, 7, none⟩ = some (.int .i64 wo) := p7
  replace ne : B1 < W1.drew.heap.size := ne
  replace nk : b < W1.drew.heap.size := nk
  replace nq : B2 < W1.drew.heap.size := nq
  replace np : w.heap.size < W1.drew.heap.size := np
  generalize hWd : W1.drew = wd2 at hHeld hL e0 k9 q0 q1 q2 p0 p1 p2 p3 p4 p5 p6 p7 ne nk nq np  ⊢
  clear hWd
  refine tq 0 5 ?_ ?_ ?_; rotate_left; (focus intro w h; (try dsimp only at h); go_simp; try with_reducible rfl); try simp only [sA, sB, sC]
  refine tq 1 6 ?_ ?_ ?_; rotate_left; (focus intro w h; (try dsimp only at h); go_simp; try with_reducible rfl); try simp only [sA, sB, sC]
  refine tq 2 7 ?_ ?_ ?_; rotate_left; (focus intro w h; (try dsimp only at h); go_simp; try with_reducible rfl); try simp only [sA, sB, sC]
  refine tq 3 8 ?_ ?_ ?_; rotate_left; (focus intro w h; (try dsimp only at h); go_simp; try with_reducible rfl); try simp only [sA, sB, sC]
  refine tq 4 9 ?_ ?_ ?_; rotate_left; (focus intro w h; (try dsimp only at h); go_simp; try with_reducible rfl); try simp only [sA, sB, sC]
  refine tq 5 10 ?_ ?_ ?_; rotate_left; (focus intro w h; (try dsimp only at h); go_simp; try with_reducible rfl); try simp only [sA, sB, sC]
  refine tq 6 11 ?_ ?_ ?_; rotate_left; (focus intro w h; (try dsimp only at h); go_simp; try with_reducible rfl); try simp only [sA, sB, sC]
  refine tq 7 12 ?_ ?_ ?_; rotate_left; (focus intro w h; (try dsimp only at h); go_simp; try with_reducible rfl); try simp only [sA, sB, sC]
  refine tq 8 13 ?_ ?_ ?_; rotate_left; (focus intro w h; (try dsimp only at h); go_simp; try with_reducible rfl); try simp only [sA, sB, sC]
  refine tq 9 14 ?_ ?_ ?_; rotate_left; (focus intro w h; (try dsimp only at h); go_simp; try with_reducible rfl); try simp only [sA, sB, sC]
  refine tq 11 16 ?_ ?_ ?_; rotate_left; (focus intro w h; (try dsimp only at h); go_simp; try with_reducible rfl); try simp only [sA, sB, sC]
  refine rd1 10 (fun K hK => ?_)
  go_simp
  refine (C1.out _).mono ?_
  rintro e Z2x1 ⟨rfl, hb⟩
  replace e0 := cell_next hb ne e0
  replace k9 := cell_next hb nk k9
  replace q0 := cell_next hb nq q0
  replace q1 := cell_next hb nq q1
  replace q2 := cell_next hb nq q2
  replace p0 := cell_next hb np p0
  replace p1 := cell_next hb np p1
  replace p2 := cell_next hb np p2
  replace p3 := cell_next hb np p3
  replace p4 := cell_next hb np p4
  replace p5 := cell_next hb np p5
  replace p6 := cell_next hb np p6
  replace p7 := cell_next hb np p7
  replace ne := Nat.lt_of_lt_of_le ne hb.size
  replace nk := Nat.lt_of_lt_of_le nk hb.size
  replace nq := Nat.lt_of_lt_of_le nq hb.size
  replace np := Nat.lt_of_lt_of_le np hb.size
  replace hL := hL.trans (hb.mono (Nat.le_trans hBW hL.size))
  refine hK.out _ _ ⟨p0, p1, p2, p3, p4, p5, p6, p7, e0, k9, q0, q1, q2, trivial⟩ (fun hHeld => ?_)
  clear hK K hb
  try simp only [Act.put, sA, sB, sC]
  refine rd1 12 (fun K hK => ?_)
  go_simp
  refine (C2.out _).mono ?_
  rintro e Z2x2 ⟨rfl, hb⟩
  replace e0 := cell_next hb ne e0
  replace k9 := cell_next hb nk k9
  replace q0 := cell_next hb nq q0
  replace q1 := cell_next hb nq q1
  replace q2 := cell_next hb nq q2
  replace p0 := cell_next hb np p0
  replace p1 := cell_next hb np p1
  replace p2 := cell_next hb np p2
  replace p3 := cell_next hb np p3
  replace p4 := cell_next hb np p4
  replace p5 := cell_next hb np p5
  replace p6 := cell_next hb np p6
  replace p7 := cell_next hb np p7
  replace ne := Nat.lt_of_lt_of_le ne hb.size
  replace nk := Nat.lt_of_lt_of_le nk hb.size
  replace nq := Nat.lt_of_lt_of_le nq hb.size
  replace np := Nat.lt_of_lt_of_le np hb.size
  replace hL := hL.trans (hb.mono (Nat.le_trans hBW hL.size))
  refine hK.out _ _ ⟨p0, p1, p2, p3, p4, p5, p6, p7, e0, k9, q0, q1, q2, trivial⟩ (fun hHeld => ?_)
  clear hK K hb
  try simp only [Act.put, sA, sB, sC]
  refine tq 13 18 ?_ ?_ ?_; rotate_left; (focus intro w h; (try dsimp only at h); go_simp; try with_reducible rfl); try simp only [sA, sB, sC]
  refine tq 14 4 ?_ ?_ ?_; rotate_left; (focus intro w h; (try dsimp only at h); go_simp; try with_reducible rfl); try simp only [sA, sB, sC]
  refine wpAnyH_done (by kernel_rfl) ?_ _
  replace hB := hB.trans (hL.mono hB.size)
  clear hHeld hL hBW
  go_wp2_with fail
  go_ret
  exact ⟨by simp, hB⟩
theorem jqenters : ∀ args w, (callFunc 126 args).run Tryz.prog w = .ok (.enter 126 args) w := enters_of Tryz.func126 (by kernel_rfl) rfl

set_option maxRecDepth 20000 in
set_option maxHeartbeats 1000000 in
theorem jqindex_any (sd u1 u2 u3 : Int) (B1 B2 : Nat) (v : Value) (xs : List (Pd)) (w : World) (hl : xs.length ≤ 1000000000000) (hv : RsAt 8 cPd w.heap.size w v xs)
  (HC : ∀ (x : Pd) (W : World), Below w.heap.size w W → Calls Tryz.prog 126 #[.agg (cPd x).toArray, .pointer (some ⟨B1, 0, none⟩), .pointer (some ⟨B2, 0, none⟩)] W fun e w' => e = .returned (.bool ((prB sd u1 u2 u3) x)) ∧ Below W.heap.size W w') :
  Calls Tryz.prog 87 #[v, .func (Fn.func 126) #[] #[.pointer (some ⟨B1, 0, none⟩), .pointer (some ⟨B2, 0, none⟩)]] w fun e w' => e = .returned (.int .i64 (ixF ((prB sd u1 u2 u3)) xs)) ∧ Below w.heap.size w w' := by
 have HE := jqenters
 obtain ⟨A, c, rfl, hr⟩ := hv
 obtain ⟨p, hpp⟩ : ∃ p : Pd → Bool, ((prB sd u1 u2 u3)) = p := ⟨_, rfl⟩
 rw [hpp]
 replace HC := Lib.hid (fun x W h => by have := HC x W h; rw [show ((prB sd u1 u2 u3)) x = p x from congrFun hpp x] at this; exact this)
 clear hpp
 have HF := Lib.hid (fun (k : Nat) (x : Pd) (h : xs[k]? = some x) (ha : (xs.take k).any p = false) (hb : p x = true) => ixF_at p xs k x h ha hb)
 have HZ := Lib.hid (fun (h : xs.any p = false) => ixF_no p xs h)
 have HS := Lib.hid (fun (k : Nat) (x : Pd) (h : xs[k]? = some x) (ha : (xs.take k).any p = false) (hb : p x = false) => any_next p xs k x h ha hb)
 obtain ⟨r, hrr⟩ : ∃ r, ixF p xs = r := ⟨_, rfl⟩
 rw [hrr] at HF HZ ⊢
 clear hrr
 obtain ⟨n, hn⟩ : ∃ n, xs.length = n := ⟨_, rfl⟩
 rw [hn] at hr hl ⊢
 have Hn := Lib.hid hn
 have HR := Lib.hid hr
 clear hr hn
 go_enter Tryz.func87, Tryz.ntmps87
 go_wp2_with fail
 go_loopw [8] (fun i wr => ∃ k : Nat, k ≤ n ∧ i = .int .i64 k ∧ Hid ((xs.take k).any p = false) ∧ Below w.heap.size w wr) (fun i _ => n - (RowKit.intOf i).toNat)
 case atStart => exact ⟨0, Nat.zero_le _, rfl, Lib.hid rfl, Below.refl _ _⟩
 case round =>
  obtain ⟨k, hk, rfl, ho, hbr⟩ := hrel
  by_cases hlt : (k : Int) < (n : Int)
  ·obtain ⟨x, hp⟩ : ∃ x, xs[k]? = some x := ⟨_, List.getElem?_eq_getElem (by rw [Hn.out]; omega)⟩
   obtain ⟨g, off, rfl, hg, hc0⟩ := HR.out (by omega)
   have hc := fun (k : Nat) (x : Pd) (h : xs[k]? = some x) (j : Nat) (u : Value) (hj : (cPd x)[j]? = some u) => cell_next hbr hg (hc0 k x h j u hj)
   have HFk := Lib.hid (HF.out k x hp ho.out)
   have HSk := Lib.hid (HS.out k x hp ho.out)
   have c1 := HC.out x wr hbr
   obtain ⟨x0, x1, x2, x3, x4, x5, x6, x7⟩ := x
   dsimp only [cPd] at c1
   replace c1 := Lib.hid c1
   have q0 : wr.cell? ⟨g, off + k * 8, none⟩ = some (.int .i64 x0) := hc k ⟨x0, x1, x2, x3, x4, x5, x6, x7⟩ hp 0 _ rfl
   have q1 : wr.cell? ⟨g, off + k * 8 + 1, none⟩ = some (.int .i64 x1) := hc k ⟨x0, x1, x2, x3, x4, x5, x6, x7⟩ hp 1 _ rfl
   have q2 : wr.cell? ⟨g, off + k * 8 + 2, none⟩ = some (.int .i64 x2) := hc k ⟨x0, x1, x2, x3, x4, x5, x6, x7⟩ hp 2 _ rfl
   have q3 : wr.cell? ⟨g, off + k * 8 + 3, none⟩ = some (.int .i64 x3) := hc k ⟨x0, x1, x2, x3, x4, x5, x6, x7⟩ hp 3 _ rfl
   have q4 : wr.cell? ⟨g, off + k * 8 + 4, none⟩ = some (.int .i64 x4) := hc k ⟨x0, x1, x2, x3, x4, x5, x6, x7⟩ hp 4 _ rfl
   have q5 : wr.cell? ⟨g, off + k * 8 + 5, none⟩ = some (.int .i64 x5) := hc k ⟨x0, x1, x2, x3, x4, x5, x6, x7⟩ hp 5 _ rfl
   have q6 : wr.cell? ⟨g, off + k * 8 + 6, none⟩ = some (.int .i64 x6) := hc k ⟨x0, x1, x2, x3, x4, x5, x6, x7⟩ hp 6 _ rfl
   have q7 : wr.cell? ⟨g, off + k * 8 + 7, none⟩ = some (.int .i64 x7) := hc k ⟨x0, x1, x2, x3, x4, x5, x6, x7⟩ hp 7 _ rfl
   clear hc hc0 hp
   generalize p ⟨x0, x1, x2, x3, x4, x5, x6, x7⟩ = b' at *
   cases b'
   ·have E := Lib.hid (HSk.out rfl)
    clear HFk HSk
    go_wp2_with fail
    refine c1.out.mono ?_
    rintro e w1 ⟨rfl, hb⟩
    have hB := hbr.trans (hb.mono hbr.size)
    clear hb q0 q1 q2 q3 q4 q5 q6 q7 c1
    go_wp2_with fail
    go_roundw
    case rel => exact ⟨k + 1, by omega, by go_num, E, hB⟩
    case measure => simp [RowKit.intOf]; omega
   ·have E := Lib.hid (HFk.out rfl)
    clear HFk HSk
    go_wp2_with fail
    refine c1.out.mono ?_
    rintro e w1 ⟨rfl, hb⟩
    have hB := hbr.trans (hb.mono hbr.size)
    clear hb
    go_wp2_with fail
    go_ret
    exact ⟨by first | (rw [E.out]; rfl) | rw [E.out], hB⟩
  ·obtain rfl : k = n := by omega
   have E := Lib.hid (HZ.out (by have h := ho.out; rwa [List.take_of_length_le (by rw [Hn.out]; exact Nat.le_refl _)] at h))
   go_wp2_with fail
   go_ret
   exact ⟨by first | (rw [E.out]; rfl) | rw [E.out], hbr⟩

set_option maxRecDepth 20000 in
set_option maxHeartbeats 1000000 in
theorem product_any (b : Nat) (sd x y z : Int) (v3 : Value) (ps : List Pd) (w : World) (hl : ps.length ≤ 1000000000000) (np : b < w.heap.size) (p9 : w.cell? ⟨b, 9, none⟩ = some (.int .i64 sd)) (p14 : w.cell? ⟨b, 14, none⟩ = some v3) (hp : RsAt 8 cPd w.heap.size w v3 ps) :
  Calls Tryz.prog 99 #[.pointer (some ⟨b, 0, none⟩), .agg #[.int .i64 x, .int .i64 y, .int .i64 z]] w fun e w' => e = .returned (.int .i64 (ixF (prB sd x y z) ps)) ∧ Below w.heap.size w w' := by
 have C1 := Lib.hid (fun (W : World) (h : Below w.heap.size w W) (n1 : w.heap.size < W.heap.size) (n2 : w.heap.size + 1 < W.heap.size) (e0 : W.cell? ⟨w.heap.size, 0, none⟩ = some (.pointer (some ⟨b, 0, none⟩))) (q0 : W.cell? ⟨w.heap.size + 1, 0, none⟩ = some (.int .i64 x)) (q1 : W.cell? ⟨w.heap.size + 1, 1, none⟩ = some (.int .i64 y)) (q2 : W.cell? ⟨w.heap.size + 1, 2, none⟩ = some (.int .i64 z)) =>
  jqindex_any sd x y z w.heap.size (w.heap.size + 1) v3 ps W hl (hp.next h) (fun p W' h' => prod1_any p sd x y z b _ _ W' (Nat.lt_of_lt_of_le np (h.trans (h'.mono h.size)).size) (Nat.lt_of_lt_of_le n1 h'.size) (Nat.lt_of_lt_of_le n2 h'.size) (cell_next h' n1 e0) (cell_next (h.trans (h'.mono h.size)) np p9) (cell_next h' n2 q0) (cell_next h' n2 q1) (cell_next h' n2 q2)))
 have hix := ixF_any (prB sd x y z) ps
 obtain ⟨A3, c3, rfl⟩ := hp.slice
 generalize ixF (prB sd x y z) ps = r at *
 generalize ps.any (prB sd x y z) = s at *
 generalize ps.length = n at *
 have hal := fun o o' => below_al2 w o o'
 have p14' := fun o o' => cell_next (hal o o') np p14
 clear hp
 cases s
 ·have hi' : r = -1 := by simpa using hix
  subst hi'
  go_enter Tryz.func99, Tryz.ntmps99
  go_wp2_with fail
  refine (C1.out _ (hal _ _) (by simp <;> omega) (by simp <;> omega) (by simp [go_sem]) (by simp [go_sem]) (by simp [go_sem]) (by simp [go_sem])).mono ?_
  rintro e w1 ⟨rfl, hb⟩
  have hB := below2 hb
  clear hb
  go_wp2_with fail
  go_ret
  exact ⟨rfl, hB⟩
 ·have hi' : 0 ≤ r := by simpa using hix
  have d1 : decide (r < 0) = false := decide_eq_false (by omega)
  clear hix
  go_enter Tryz.func99, Tryz.ntmps99
  go_wp2_with fail
  refine (C1.out _ (hal _ _) (by simp <;> omega) (by simp <;> omega) (by simp [go_sem]) (by simp [go_sem]) (by simp [go_sem]) (by simp [go_sem])).mono ?_
  rintro e w1 ⟨rfl, hb⟩
  have hB := below2 hb
  clear hb
  go_wp2_with fail
  go_ret
  exact ⟨rfl, hB⟩

/-- a cube: its three ranges -/
structure Cu where
 a0 : Int
 b0 : Int
 a1 : Int
 b1 : Int
 a2 : Int
 b2 : Int
def cCu (c : Cu) : List Value := [.int .i64 c.a0, .int .i64 c.b0, .int .i64 c.a1, .int .i64 c.b1, .int .i64 c.a2, .int .i64 c.b2]
def axR (ax : Nat) (c : Cu) : Int × Int := if ax = 0 then (c.a0, c.b0) else if ax = 1 then (c.a1, c.b1) else (c.a2, c.b2)
/-- where another range begins, or has just ended, within a range -/
def stp2 (lo hi : Int) (o : Int × Int) : List Int := [o.1, o.2 + 1].filter (inB lo hi)
def stpL (ax : Nat) (c : Cu) (os : List Cu) : List Int := (axR ax c).1 :: os.flatMap fun o => stp2 (axR ax c).1 (axR ax c).2 (axR ax o)
theorem infoJI : (Tryz.prog.info? 3).map (fun i => (i.zero, i.size, i.bytes)) = some (some (.int .i64 0), 1, 8) := by kernel_rfl
def intsJ (xs : List Int) : List Value := xs.map fun x => .int .i64 x
theorem intsJ_snoc (xs : List Int) (x : Int) : intsJ (xs ++ [x]) = intsJ xs ++ [.int .i64 x] := by simp [intsJ]
/-- the list so far: k cubes whole, of the next one j numbers -/
def stpK (ax : Nat) (c : Cu) (os : List Cu) (k j : Nat) : List Int := (axR ax c).1 :: (((os.take k).flatMap fun o => stp2 (axR ax c).1 (axR ax c).2 (axR ax o)) ++ (((os[k]?).map fun o => (([(axR ax o).1, (axR ax o).2 + 1] : List Int).take j).filter (inB (axR ax c).1 (axR ax c).2)).getD []))
theorem stpK_zero (ax : Nat) (c : Cu) (os : List Cu) (k : Nat) : stpK ax c os k 0 = (axR ax c).1 :: ((os.take k).flatMap fun o => stp2 (axR ax c).1 (axR ax c).2 (axR ax o)) := by
 unfold stpK
 cases os[k]? <;> simp
theorem stpK_two (ax : Nat) (c : Cu) (os : List Cu) (k : Nat) (h : k < os.length) : stpK ax c os k 2 = stpK ax c os (k + 1) 0 := by
 rw [stpK_zero]
 have h1 : os[k]? = some os[k] := List.getElem?_eq_getElem h
 have e : os.take (k + 1) = os.take k ++ [os[k]] := by rw [List.take_add_one, h1]; rfl
 unfold stpK
 rw [h1, e, List.flatMap_append]
 simp only [List.flatMap_cons, List.flatMap_nil, List.append_nil, Option.map_some, Option.getD_some]
 rfl
theorem stpK_end (ax : Nat) (c : Cu) (os : List Cu) : stpK ax c os os.length 0 = stpL ax c os := by
 rw [stpK_zero, List.take_of_length_le (Nat.le_refl _)]; rfl
theorem stpK_next (ax : Nat) (c : Cu) (os : List Cu) (k j : Nat) (o : Cu) (n : Int) (h : os[k]? = some o) (hj : ([(axR ax o).1, (axR ax o).2 + 1] : List Int)[j]? = some n) : stpK ax c os k (j + 1) = if inB (axR ax c).1 (axR ax c).2 n then stpK ax c os k j ++ [n] else stpK ax c os k j := by
 unfold stpK
 rw [h]
 simp only [Option.map_some, Option.getD_some]
 rw [List.take_add_one, hj, List.filter_append]
 split <;> rename_i hb <;> simp [hb]
theorem stpK_len (ax : Nat) (c : Cu) (os : List Cu) (k j : Nat) : (stpK ax c os k j).length ≤ 1 + 2 * os.length + 2 := by
 have key : ∀ (l : List Cu), (l.flatMap fun o => stp2 (axR ax c).1 (axR ax c).2 (axR ax o)).length ≤ 2 * l.length := by
  intro l
  induction l with
  | nil => simp
  | cons o l ih =>
   have : (stp2 (axR ax c).1 (axR ax c).2 (axR ax o)).length ≤ 2 := by unfold stp2; exact Nat.le_trans (List.length_filter_le _ _) (by simp)
   simp only [List.flatMap_cons, List.length_append, List.length_cons]
   omega
 have h1 := key (os.take k)
 have h2 : (os.take k).length ≤ os.length := by rw [List.length_take]; omega
 have h3 : ((((os[k]?).map fun o => (([(axR ax o).1, (axR ax o).2 + 1] : List Int).take j).filter (inB (axR ax c).1 (axR ax c).2)).getD [])).length ≤ 2 := by
  cases os[k]? with
  | none => simp
  | some o =>
   simp only [Option.map_some, Option.getD_some]
   exact Nat.le_trans (List.length_filter_le _ _) (by rw [List.length_take]; simp; omega)
 unfold stpK
 simp only [List.length_cons, List.length_append]
 omega
def StpPost (w : World) (xs : List Int) (e : Ending) (w' : World) : Prop := ∃ v, e = .returned v ∧ w'.ownsRow w.heap.size 3 1 v xs.length (intsJ xs) ∧ Below w.heap.size w w'

set_option maxRecDepth 20000 in
set_option maxHeartbeats 4000000 in
theorem steps0_any (a0 b0 a1 b1 a2 b2 : Int) (os : List Cu) (v : Value) (w : World) (hl : os.length ≤ 1000) (hbd : ∀ o ∈ os, -1000000000000000 ≤ (axR 0 o).2 ∧ (axR 0 o).2 ≤ 1000000000000000) (hv : RsAt 6 cCu w.heap.size w v os) :
  Calls Tryz.prog 125 #[.agg #[.int .i64 a0, .int .i64 b0, .int .i64 a1, .int .i64 b1, .int .i64 a2, .int .i64 b2], .int .i64 0, v] w (StpPost w (stpL 0 ⟨a0, b0, a1, b1, a2, b2⟩ os)) := by
 obtain ⟨i0, hi0, hz0, hz1, hz2⟩ := info_parts infoJI
 have C1 := Lib.hid (fun (n : Int) (W : World) (g c : Nat) => jin1v_any a0 b0 n g c W)
 obtain ⟨A, cp, rfl, hr⟩ := hv
 obtain ⟨c, hc⟩ : ∃ c : Cu, ⟨a0, b0, a1, b1, a2, b2⟩ = c := ⟨_, rfl⟩
 have hax : Hid (axR 0 c = (a0, b0)) := Lib.hid (by rw [← hc]; rfl)
 rw [hc]
 clear hc
 have HN := Lib.hid (fun (k j : Nat) (o : Cu) (n : Int) (h : os[k]? = some o) hj => (stpK_next 0 c os k j o n h hj).trans (by rw [hax.out]))
 have HL := Lib.hid (stpK_len 0 c os)
 have H0 := Lib.hid (show stpK 0 c os 0 0 = [a0] by rw [stpK_zero, hax.out]; simp)
 have HE := Lib.hid (stpK_end 0 c os)
 have H2 := Lib.hid (stpK_two 0 c os)
 have HBD := Lib.hid hbd
 obtain ⟨Q, hQ⟩ : ∃ Q, StpPost w (stpL 0 c os) = Q := ⟨_, rfl⟩
 have HQ : Hid (∀ v w', w'.ownsRow w.heap.size 3 1 v (stpL 0 c os).length (intsJ (stpL 0 c os)) → Below w.heap.size w w' → Q (.returned v) w') := Lib.hid (fun v w' h h' => by rw [← hQ]; exact ⟨v, rfl, h, h'⟩)
 rw [hQ]
 obtain ⟨n, hn⟩ : ∃ n, os.length = n := ⟨_, rfl⟩
 rw [hn] at hr hl ⊢
 have Hn := Lib.hid hn
 have HR := Lib.hid hr
 clear hn hr hbd hQ hax
 go_enter Tryz.func125, Tryz.ntmps125
 have hown0 : ∀ (W : World) (B : Nat), B ≤ W.heap.size → (W.alloc (.cells #[.int .i64 a0] 3)).ownsRow B 3 1 (.slice (some ⟨W.heap.size, 0, none⟩) 1 1) 1 [.int .i64 a0] := fun W B hB =>
  ⟨rfl, .inr ⟨W.heap.size, 1, #[.int .i64 a0], rfl, hB, heap_alloc_new W _, Nat.le_refl _, (by unfold maxLen; omega), rfl, rfl⟩⟩
 go_wp2_with fail
 have HO0 := Lib.hid (hown0 ((w.alloc (Obj.cells #[.int .i64 a0, .int .i64 b0, .int .i64 a1, .int .i64 b1, .int .i64 a2, .int .i64 b2] 155)).alloc (Obj.cells #[.int .i64 a0, .int .i64 b0] 24)) (w.heap.size + 2) (by simp))
 clear hown0
 go_loopw [8, 21] (fun sv i wr => ∃ k m : Nat, k ≤ n ∧ i = .int .i64 k ∧ Hid ((stpK 0 c os k 0).length = m) ∧ Hid (wr.ownsRow (w.heap.size + 2) 3 1 sv m (intsJ (stpK 0 c os k 0))) ∧ Below w.heap.size w wr ∧ w.heap.size + 1 < wr.heap.size ∧ wr.cell? ⟨w.heap.size + 1, 0, none⟩ = some (.int .i64 a0) ∧ wr.cell? ⟨w.heap.size + 1, 1, none⟩ = some (.int .i64 b0)) (fun _ i _ => n - (RowKit.intOf i).toNat)
 case atStart =>
  refine ⟨0, 1, Nat.zero_le _, rfl, Lib.hid (by rw [H0.out]; rfl), Lib.hid (by rw [H0.out]; simpa [intsJ] using HO0.out), (((Below.refl _ _).alloc (Nat.le_refl _) _).alloc (by simp) _).alloc (by simp <;> omega) _, by simp <;> omega, ?_, ?_⟩ <;> simp [go_sem]
 case round =>
  clear HO0 H0
  obtain ⟨k, m, hk, rfl, hm, HO, hbr, nA, A0, A1⟩ := hrel
  by_cases hlt : (k : Int) < (n : Int)
  ·obtain ⟨o, hp⟩ : ∃ o, os[k]? = some o := ⟨_, List.getElem?_eq_getElem (by have := Hn.out; omega)⟩
   have hob := HBD.out o (List.mem_of_getElem? hp)
   have HN1 := Lib.hid (fun (j : Nat) (n : Int) hj => HN.out k j o n hp hj)
   have H2k := Lib.hid (H2.out k (by have := Hn.out; omega))
   obtain ⟨g, off, rfl, hg, hcc⟩ := HR.out (by omega)
   obtain ⟨o0, q0, o1, q1, o2, q2⟩ := o
   have E0 : wr.cell? ⟨g, off + k * 6, none⟩ = some (.int .i64 o0) := cell_next hbr hg (hcc k _ hp 0 _ rfl)
   have E1 : wr.cell? ⟨g, off + k * 6 + 1, none⟩ = some (.int .i64 q0) := cell_next hbr hg (hcc k _ hp 1 _ rfl)
   have E2 : wr.cell? ⟨g, off + k * 6 + 2, none⟩ = some (.int .i64 o1) := cell_next hbr hg (hcc k _ hp 2 _ rfl)
   have E3 : wr.cell? ⟨g, off + k * 6 + 3, none⟩ = some (.int .i64 q1) := cell_next hbr hg (hcc k _ hp 3 _ rfl)
   have E4 : wr.cell? ⟨g, off + k * 6 + 4, none⟩ = some (.int .i64 o2) := cell_next hbr hg (hcc k _ hp 4 _ rfl)
   have E5 : wr.cell? ⟨g, off + k * 6 + 5, none⟩ = some (.int .i64 q2) := cell_next hbr hg (hcc k _ hp 5 _ rfl)
   simp [axR] at hob
   have y1 : IntKind.i64.wrap (q0 + 1) = q0 + 1 := IntWalk.i64_in _ (by omega)
   obtain ⟨N1, hN1⟩ : ∃ N, q0 + 1 = N := ⟨_, rfl⟩
   replace y1 : IntKind.i64.wrap (q0 + 1) = N1 := y1.trans hN1
   have HP : Hid (([o0, N1] : List Int) = [(axR 0 ⟨o0, q0, o1, q1, o2, q2⟩).1, (axR 0 ⟨o0, q0, o1, q1, o2, q2⟩).2 + 1]) := Lib.hid (by rw [← hN1]; rfl)
   rw [← HP.out] at HN1
   clear hcc hp hob hN1 HP
   go_wp2_with fail
   have hal := (Below.refl wr.heap.size wr).alloc (Nat.le_refl _) (Obj.cells #[.int .i64 o0, .int .i64 q0, .int .i64 o1, .int .i64 q1, .int .i64 o2, .int .i64 q2] 155)
   have e0 : (wr.alloc (Obj.cells #[.int .i64 o0, .int .i64 q0, .int .i64 o1, .int .i64 q1, .int .i64 o2, .int .i64 q2] 155)).cell? ⟨wr.heap.size, 0, none⟩ = some (.int .i64 o0) := cell_new _ _ _ 0
   have e1 : (wr.alloc (Obj.cells #[.int .i64 o0, .int .i64 q0, .int .i64 o1, .int .i64 q1, .int .i64 o2, .int .i64 q2] 155)).cell? ⟨wr.heap.size, 1, none⟩ = some (.int .i64 q0) := cell_new _ _ _ 1
   have ne : wr.heap.size < (wr.alloc (Obj.cells #[.int .i64 o0, .int .i64 q0, .int .i64 o1, .int .i64 q1, .int .i64 o2, .int .i64 q2] 155)).heap.size := by simp
   replace A0 := cell_next hal nA A0
   replace A1 := cell_next hal nA A1
   replace nA := Nat.lt_of_lt_of_le nA hal.size
   have hB5 := hbr.alloc hbr.size (Obj.cells #[.int .i64 o0, .int .i64 q0, .int .i64 o1, .int .i64 q1, .int .i64 o2, .int .i64 q2] 155)
   replace HO := Lib.hid (own_below HO.out hal)
   have hBW := hB5.size
   have HKR := Lib.hid (fun r (hr : Value.ownBlock u8 = some r) => (World.ownsRow.lt HO.out r hr).2)
   clear hal E0 E1 E2 E3 E4 E5 hbr
   generalize wr.alloc (Obj.cells #[.int .i64 o0, .int .i64 q0, .int .i64 o1, .int .i64 q1, .int .i64 o2, .int .i64 q2] 155) = W5 at *
   generalize wr.heap.size = b4 at *
   refine wp_region_held_drew (S := fun w' => w'.cell? ⟨b4, 0, none⟩ = some (.int .i64 o0) ∧ w'.cell? ⟨b4, 1, none⟩ = some (.int .i64 q0) ∧ True) (by kernel_rfl) ?_ (fun hHeld => ?_)
   focus (exact ⟨e0, e1, trivial⟩)
   have hL : Below w.heap.size W5 W5.drew := Below.drew (Below.refl _ _)
   replace e0 : W5.drew.cell? ⟨b4, 0, none⟩ = some (.int .i64 o0) := e0
   replace e1 : W5.drew.cell? ⟨b4, 1, none⟩ = some (.int .i64 q0) := e1
   replace A0 : W5.drew.cell? ⟨w.heap.size + 1, 0, none⟩ = some (.int .i64 a0) := A0
   replace A1 : W5.drew.cell? ⟨w.heap.size + 1, 1, none⟩ = some (.int .i64 b0) := A1
   replace ne : b4 < W5.drew.heap.size := ne
   replace nA : w.heap.size + 1 < W5.drew.heap.size := nA
   replace HO := Lib.hid HO.out.drew
   generalize hWd : W5.drew = wd at hHeld hL e0 e1 A0 A1 ne nA HO ⊢
   clear hWd
   refine tq 0 25 ?_ ?_ ?_; rotate_left; (focus intro w h; (try dsimp only at h); go_simp; try with_reducible rfl); try simp only [sA, sB, sC]
   refine tq 1 26 ?_ ?_ ?_; rotate_left; (focus intro w h; (try dsimp only at h); go_simp; try with_reducible rfl); try simp only [sA, sB, sC]
   refine tq 2 27 ?_ ?_ ?_; rotate_left; (focus intro w h; (try dsimp only at h); go_simp; try with_reducible rfl); try simp only [sA, sB, sC]
   refine tq 3 28 ?_ ?_ ?_; rotate_left; (focus intro w h; (try dsimp only at h); go_simp; try with_reducible rfl); try simp only [sA, sB, sC]
   refine tq 4 29 ?_ ?_ ?_; rotate_left; (focus intro w h; (try dsimp only at h); go_simp; try with_reducible rfl); try simp only [sA, sB, sC]
   refine tq 5 30 ?_ ?_ ?_; rotate_left; (focus intro w h; (try dsimp only at h); go_simp; try with_reducible rfl); try simp only [sA, sB, sC]
   refine tq 6 31 ?_ ?_ ?_; rotate_left; (focus intro w h; (try dsimp only at h); go_simp; try with_reducible rfl); try simp only [sA, sB, sC]
   refine tq 7 32 ?_ ?_ ?_; rotate_left; (focus intro w h; (try dsimp only at h); go_simp; try with_reducible rfl); try simp only [sA, sB, sC]
   refine tq 8 33 ?_ ?_ ?_; rotate_left; (focus intro w h; (try dsimp only at h); go_simp; try with_reducible rfl); try simp only [sA, sB, sC]
   refine tq 11 36 ?_ ?_ ?_; rotate_left; (focus intro w h; (try dsimp only at h); go_simp; try with_reducible rfl); try simp only [sA, sB, sC]
   refine rd1 9 (fun K hK => ?_)
   go_simp
   have hb := (Below.refl wd.heap.size wd).alloc (Nat.le_refl _) (Obj.cells #[.int .i64 o0, .int .i64 N1] 3)
   have szZ1 := hL.size
   have ord1ne := ne
   have ord1nA := nA
   replace e0 := cell_next hb ne e0
   replace e1 := cell_next hb ne e1
   replace A0 := cell_next hb nA A0
   replace A1 := cell_next hb nA A1
   replace ne := Nat.lt_of_lt_of_le ne hb.size
   replace nA := Nat.lt_of_lt_of_le nA hb.size
   replace hL := hL.trans (hb.mono (Nat.le_trans hBW hL.size))
   replace HO := Lib.hid (own_below HO.out hb)
   have K0 : (wd.alloc (Obj.cells #[.int .i64 o0, .int .i64 N1] 3)).cell? ⟨wd.heap.size, 0, none⟩ = some (.int .i64 o0) := cell_new _ _ _ 0
   have K1 : (wd.alloc (Obj.cells #[.int .i64 o0, .int .i64 N1] 3)).cell? ⟨wd.heap.size, 1, none⟩ = some (.int .i64 N1) := cell_new _ _ _ 1
   have nK : wd.heap.size < (wd.alloc (Obj.cells #[.int .i64 o0, .int .i64 N1] 3)).heap.size := by simp
   refine hK.out _ _ ⟨e0, e1, trivial⟩ (fun hHeld => ?_)
   clear hK K hb
   generalize wd.alloc (Obj.cells #[.int .i64 o0, .int .i64 N1] 3) = Z1 at *
   try simp only [Act.put, sA, sB, sC]
   refine tq 10 35 ?_ ?_ ?_; rotate_left; (focus intro w h; (try dsimp only at h); go_simp; try with_reducible rfl); try simp only [sA, sB, sC]
   refine wpAnyH_done (by kernel_rfl) ?_ _
   have hB6 := hB5.trans hL
   clear hHeld hL e0 e1 ne hB5 hBW
   generalize wd.heap.size = KB at *
   have HRK := Lib.hid (fun r (hr : Value.ownBlock u8 = some r) => (by have := HKR.out r hr; omega : r ≠ KB))
   clear HKR szZ1
   go_wp2_with fail
   go_loopw [8, 36] (fun sv i wr => ∃ j m' : Nat, j ≤ 2 ∧ i = .int .i64 j ∧ Hid ((stpK 0 c os k j).length = m') ∧ Hid (wr.ownsRow (w.heap.size + 2) 3 1 sv m' (intsJ (stpK 0 c os k j))) ∧ Below w.heap.size w wr ∧ w.heap.size + 1 < wr.heap.size ∧ wr.cell? ⟨w.heap.size + 1, 0, none⟩ = some (.int .i64 a0) ∧ wr.cell? ⟨w.heap.size + 1, 1, none⟩ = some (.int .i64 b0) ∧ KB < wr.heap.size ∧ wr.cell? ⟨KB, 0, none⟩ = some (.int .i64 o0) ∧ wr.cell? ⟨KB, 1, none⟩ = some (.int .i64 N1) ∧ Hid (∀ r, Value.ownBlock sv = some r → r ≠ KB)) (fun _ i _ => 2 - (RowKit.intOf i).toNat)
   case atStart => exact ⟨0, m, by omega, rfl, hm, HO, hB6, nA, A0, A1, nK, K0, K1, HRK⟩
   case round =>
    clear HO hm hB6 nA A0 A1 nK K0 K1 HRK
    obtain ⟨j, m', hj, rfl, hm', HO, hbr, nA, A0, A1, nK, K0, K1, HRK⟩ := hrel
    by_cases hlj : (j : Int) < 2
    ·obtain ⟨x, hx⟩ : ∃ x, ([o0, N1] : List Int)[j]? = some x := ⟨_, List.getElem?_eq_getElem (by simp; omega)⟩
     have HJ := Lib.hid (HN1.out j x hx)
     have qx : wr.cell? ⟨KB, j, none⟩ = some (.int .i64 x) := by
      obtain rfl | rfl : j = 0 ∨ j = 1 := by omega
      ·simp at hx; subst hx; exact K0
      ·simp at hx; subst hx; exact K1
     have C1x := Lib.hid (C1.out x)
     have HB := Lib.hid hbr
     clear hx
     generalize inB a0 b0 x = z at *
     cases z
     ·have HO' : Hid (wr.ownsRow (w.heap.size + 2) 3 1 u8 m' (intsJ (stpK 0 c os k (j + 1)))) := Lib.hid (by rw [HJ.out]; exact HO.out)
      have hm2 : Hid ((stpK 0 c os k (j + 1)).length = m') := Lib.hid (by rw [HJ.out]; exact hm'.out)
      clear HO hm' HJ
      go_wp2_with fail
      refine (C1x.out _ _ _ (by simp) (by simp [go_sem])).mono ?_
      rintro e W9 ⟨rfl, hb9⟩
      have hb9' := below1 hb9
      have hB9 := hbr.trans (hb9'.mono hbr.size)
      replace A0 := cell_next hb9' nA A0
      replace A1 := cell_next hb9' nA A1
      replace K0 := cell_next hb9' nK K0
      replace K1 := cell_next hb9' nK K1
      replace nA := Nat.lt_of_lt_of_le nA hb9'.size
      replace nK := Nat.lt_of_lt_of_le nK hb9'.size
      replace HO' := Lib.hid (own_below HO'.out hb9')
      clear hb9 hb9' hbr HB qx
      go_wp2_with fail
      go_roundw
      case rel => exact ⟨j + 1, m', by omega, by go_num, hm2, HO', hB9, nA, A0, A1, nK, K0, K1, HRK⟩
      case measure => simp [RowKit.intOf]; omega
     ·have hm2 : Hid ((stpK 0 c os k (j + 1)).length = m' + 1) := Lib.hid (by rw [HJ.out]; simp [hm'.out])
      have hx2 : Hid (intsJ (stpK 0 c os k (j + 1)) = intsJ (stpK 0 c os k j) ++ [.int .i64 x]) := Lib.hid (by rw [HJ.out]; simp [intsJ])
      have hmb : m' ≤ 3000 := by have := HL.out k j; have := hm'.out; have := Hn.out; omega
      clear hm' HJ
      go_wp2_with fail
      refine (C1x.out _ _ _ (by simp) (by simp [go_sem])).mono ?_
      rintro e W9 ⟨rfl, hb9⟩
      have hb9' := below1 hb9
      have hB9 := hbr.trans (hb9'.mono hbr.size)
      replace A0 := cell_next hb9' nA A0
      replace A1 := cell_next hb9' nA A1
      replace K0 := cell_next hb9' nK K0
      replace K1 := cell_next hb9' nK K1
      replace nA := Nat.lt_of_lt_of_le nA hb9'.size
      replace nK := Nat.lt_of_lt_of_le nK hb9'.size
      replace HO := Lib.hid (own_below HO.out hb9')
      clear hb9 hb9' hbr HB qx
      go_wp2_with (at_builtin; refine wpList_append_own_at _ rfl (.tmp 47) (.tmp 49) 54 rfl (w.heap.size + 2) 3 i0 (.int .i64 0) 1 8 Tryz.underlying54 hi0 hz0 hz1 hz2 rfl (by decide) _ m' (intsJ (stpK 0 c os k j)) rfl (HO.out.alloc _) ⟨W9.heap.size, 0, none⟩ 1 1 [.int .i64 x] rfl rfl ?_ ?_ ?_ ?_ ?_ ?_)
      case refine_1 =>
       intro i u hi
       rcases i with _ | i
       ·simp at hi; subst hi; exact cell_new _ _ _ 0
       ·simp at hi
      case refine_2 => simp [Value.oneCell']
      case refine_3 => unfold maxLen; omega
      case refine_4 => omega
      case refine_5 => have := hB9.size; simp; omega
      case refine_6 =>
       intro sv' W10 hown' hgrow _ hat
       have hrow : ∀ r, Value.ownBlock _ = some r → w.heap.size + 2 ≤ r := fun r hr => (World.ownsRow.lt HO.out r hr).1
       have hal3 := (Below.refl W9.heap.size W9).alloc (Nat.le_refl _) (Obj.cells #[.int .i64 x] 3)
       have hkr := HRK.out
       have HRK' : Hid (∀ r, Value.ownBlock sv' = some r → r ≠ KB) := Lib.hid (fun r hr => by
        rcases hat with h | h
        ·exact hkr r (h.symm.trans hr)
        ·rw [h] at hr; injection hr with hr; have := hal3.size; omega)
       have hB10 := (hB9.alloc hB9.size (Obj.cells #[.int .i64 x] 3)).grown hgrow (by have := hB9.size; simp; omega) (fun r hr => by have := hrow r hr; omega)
       replace A0 := grown_cell' hgrow (Nat.lt_of_lt_of_le nA hal3.size) (fun r hr => by have := hrow r hr; omega) (cell_next hal3 nA A0)
       replace A1 := grown_cell' hgrow (Nat.lt_of_lt_of_le nA hal3.size) (fun r hr => by have := hrow r hr; omega) (cell_next hal3 nA A1)
       replace K0 := grown_cell' hgrow (Nat.lt_of_lt_of_le nK hal3.size) (fun r hr => (hkr r hr).symm) (cell_next hal3 nK K0)
       replace K1 := grown_cell' hgrow (Nat.lt_of_lt_of_le nK hal3.size) (fun r hr => (hkr r hr).symm) (cell_next hal3 nK K1)
       replace nA := Nat.lt_of_lt_of_le (Nat.lt_of_lt_of_le nA hal3.size) hgrow.size
       replace nK := Nat.lt_of_lt_of_le (Nat.lt_of_lt_of_le nK hal3.size) hgrow.size
       have HO' : Hid (W10.ownsRow (w.heap.size + 2) 3 1 sv' (m' + 1) (intsJ (stpK 0 c os k (j + 1)))) := Lib.hid (by rw [hx2.out]; exact hown')
       clear hown' hgrow hat hrow hal3 HO hx2 hkr HRK
       go_wp2_with fail
       go_roundw
       case rel => exact ⟨j + 1, m' + 1, by omega, by go_num, hm2, HO', hB10, nA, A0, A1, nK, K0, K1, HRK'⟩
       case measure => simp [RowKit.intOf]; omega
    ·obtain rfl : j = 2 := by omega
     have HO' : Hid (wr.ownsRow (w.heap.size + 2) 3 1 u8 m' (intsJ (stpK 0 c os (k + 1) 0))) := Lib.hid (by rw [← H2k.out]; exact HO.out)
     have hm2 : Hid ((stpK 0 c os (k + 1) 0).length = m') := Lib.hid (by rw [← H2k.out]; exact hm'.out)
     clear HO hm'
     go_wp2_with fail
     go_roundw
     case rel => exact ⟨k + 1, m', by omega, by go_num, hm2, HO', hbr, nA, A0, A1⟩
     case measure => simp [RowKit.intOf]; omega
  ·obtain rfl : k = n := by omega
   have hE := HE.out
   rw [Hn.out] at hE
   have HF := Lib.hid (show wr.ownsRow w.heap.size 3 1 u8 (stpL 0 c os).length (intsJ (stpL 0 c os)) from by rw [← hE, hm.out]; exact own_monoJ HO.out (by omega))
   clear HO hE
   go_wp2_with fail
   exact HQ.out _ _ HF.out hbr

set_option maxRecDepth 20000 in
set_option maxHeartbeats 4000000 in
theorem steps1_any (a0 b0 a1 b1 a2 b2 : Int) (os : List Cu) (v : Value) (w : World) (hl : os.length ≤ 1000) (hbd : ∀ o ∈ os, -1000000000000000 ≤ (axR 1 o).2 ∧ (axR 1 o).2 ≤ 1000000000000000) (hv : RsAt 6 cCu w.heap.size w v os) :
  Calls Tryz.prog 125 #[.agg #[.int .i64 a0, .int .i64 b0, .int .i64 a1, .int .i64 b1, .int .i64 a2, .int .i64 b2], .int .i64 1, v] w (StpPost w (stpL 1 ⟨a0, b0, a1, b1, a2, b2⟩ os)) := by
 obtain ⟨i0, hi0, hz0, hz1, hz2⟩ := info_parts infoJI
 have C1 := Lib.hid (fun (n : Int) (W : World) (g c : Nat) => jin1v_any a1 b1 n g c W)
 obtain ⟨A, cp, rfl, hr⟩ := hv
 obtain ⟨c, hc⟩ : ∃ c : Cu, ⟨a0, b0, a1, b1, a2, b2⟩ = c := ⟨_, rfl⟩
 have hax : Hid (axR 1 c = (a1, b1)) := Lib.hid (by rw [← hc]; rfl)
 rw [hc]
 clear hc
 have HN := Lib.hid (fun (k j : Nat) (o : Cu) (n : Int) (h : os[k]? = some o) hj => (stpK_next 1 c os k j o n h hj).trans (by rw [hax.out]))
 have HL := Lib.hid (stpK_len 1 c os)
 have H0 := Lib.hid (show stpK 1 c os 0 0 = [a1] by rw [stpK_zero, hax.out]; simp)
 have HE := Lib.hid (stpK_end 1 c os)
 have H2 := Lib.hid (stpK_two 1 c os)
 have HBD := Lib.hid hbd
 obtain ⟨Q, hQ⟩ : ∃ Q, StpPost w (stpL 1 c os) = Q := ⟨_, rfl⟩
 have HQ : Hid (∀ v w', w'.ownsRow w.heap.size 3 1 v (stpL 1 c os).length (intsJ (stpL 1 c os)) → Below w.heap.size w w' → Q (.returned v) w') := Lib.hid (fun v w' h h' => by rw [← hQ]; exact ⟨v, rfl, h, h'⟩)
 rw [hQ]
 obtain ⟨n, hn⟩ : ∃ n, os.length = n := ⟨_, rfl⟩
 rw [hn] at hr hl ⊢
 have Hn := Lib.hid hn
 have HR := Lib.hid hr
 clear hn hr hbd hQ hax
 go_enter Tryz.func125, Tryz.ntmps125
 have hown0 : ∀ (W : World) (B : Nat), B ≤ W.heap.size → (W.alloc (.cells #[.int .i64 a1] 3)).ownsRow B 3 1 (.slice (some ⟨W.heap.size, 0, none⟩) 1 1) 1 [.int .i64 a1] := fun W B hB =>
  ⟨rfl, .inr ⟨W.heap.size, 1, #[.int .i64 a1], rfl, hB, heap_alloc_new W _, Nat.le_refl _, (by unfold maxLen; omega), rfl, rfl⟩⟩
 go_wp2_with fail
 have HO0 := Lib.hid (hown0 ((w.alloc (Obj.cells #[.int .i64 a0, .int .i64 b0, .int .i64 a1, .int .i64 b1, .int .i64 a2, .int .i64 b2] 155)).alloc (Obj.cells #[.int .i64 a1, .int .i64 b1] 24)) (w.heap.size + 2) (by simp))
 clear hown0
 go_loopw [8, 21] (fun sv i wr => ∃ k m : Nat, k ≤ n ∧ i = .int .i64 k ∧ Hid ((stpK 1 c os k 0).length = m) ∧ Hid (wr.ownsRow (w.heap.size + 2) 3 1 sv m (intsJ (stpK 1 c os k 0))) ∧ Below w.heap.size w wr ∧ w.heap.size + 1 < wr.heap.size ∧ wr.cell? ⟨w.heap.size + 1, 0, none⟩ = some (.int .i64 a1) ∧ wr.cell? ⟨w.heap.size + 1, 1, none⟩ = some (.int .i64 b1)) (fun _ i _ => n - (RowKit.intOf i).toNat)
 case atStart =>
  refine ⟨0, 1, Nat.zero_le _, rfl, Lib.hid (by rw [H0.out]; rfl), Lib.hid (by rw [H0.out]; simpa [intsJ] using HO0.out), (((Below.refl _ _).alloc (Nat.le_refl _) _).alloc (by simp) _).alloc (by simp <;> omega) _, by simp <;> omega, ?_, ?_⟩ <;> simp [go_sem]
 case round =>
  clear HO0 H0
  obtain ⟨k, m, hk, rfl, hm, HO, hbr, nA, A0, A1⟩ := hrel
  by_cases hlt : (k : Int) < (n : Int)
  ·obtain ⟨o, hp⟩ : ∃ o, os[k]? = some o := ⟨_, List.getElem?_eq_getElem (by have := Hn.out; omega)⟩
   have hob := HBD.out o (List.mem_of_getElem? hp)
   have HN1 := Lib.hid (fun (j : Nat) (n : Int) hj => HN.out k j o n hp hj)
   have H2k := Lib.hid (H2.out k (by have := Hn.out; omega))
   obtain ⟨g, off, rfl, hg, hcc⟩ := HR.out (by omega)
   obtain ⟨o0, q0, o1, q1, o2, q2⟩ := o
   have E0 : wr.cell? ⟨g, off + k * 6, none⟩ = some (.int .i64 o0) := cell_next hbr hg (hcc k _ hp 0 _ rfl)
   have E1 : wr.cell? ⟨g, off + k * 6 + 1, none⟩ = some (.int .i64 q0) := cell_next hbr hg (hcc k _ hp 1 _ rfl)
   have E2 : wr.cell? ⟨g, off + k * 6 + 2, none⟩ = some (.int .i64 o1) := cell_next hbr hg (hcc k _ hp 2 _ rfl)
   have E3 : wr.cell? ⟨g, off + k * 6 + 3, none⟩ = some (.int .i64 q1) := cell_next hbr hg (hcc k _ hp 3 _ rfl)
   have E4 : wr.cell? ⟨g, off + k * 6 + 4, none⟩ = some (.int .i64 o2) := cell_next hbr hg (hcc k _ hp 4 _ rfl)
   have E5 : wr.cell? ⟨g, off + k * 6 + 5, none⟩ = some (.int .i64 q2) := cell_next hbr hg (hcc k _ hp 5 _ rfl)
   simp [axR] at hob
   have y1 : IntKind.i64.wrap (q1 + 1) = q1 + 1 := IntWalk.i64_in _ (by omega)
   obtain ⟨N1, hN1⟩ : ∃ N, q1 + 1 = N := ⟨_, rfl⟩
   replace y1 : IntKind.i64.wrap (q1 + 1) = N1 := y1.trans hN1
   have HP : Hid (([o1, N1] : List Int) = [(axR 1 ⟨o0, q0, o1, q1, o2, q2⟩).1, (axR 1 ⟨o0, q0, o1, q1, o2, q2⟩).2 + 1]) := Lib.hid (by rw [← hN1]; rfl)
   rw [← HP.out] at HN1
   clear hcc hp hob hN1 HP
   go_wp2_with fail
   have hal := (Below.refl wr.heap.size wr).alloc (Nat.le_refl _) (Obj.cells #[.int .i64 o0, .int .i64 q0, .int .i64 o1, .int .i64 q1, .int .i64 o2, .int .i64 q2] 155)
   have e0 : (wr.alloc (Obj.cells #[.int .i64 o0, .int .i64 q0, .int .i64 o1, .int .i64 q1, .int .i64 o2, .int .i64 q2] 155)).cell? ⟨wr.heap.size, 2, none⟩ = some (.int .i64 o1) := cell_new _ _ _ 2
   have e1 : (wr.alloc (Obj.cells #[.int .i64 o0, .int .i64 q0, .int .i64 o1, .int .i64 q1, .int .i64 o2, .int .i64 q2] 155)).cell? ⟨wr.heap.size, 3, none⟩ = some (.int .i64 q1) := cell_new _ _ _ 3
   have ne : wr.heap.size < (wr.alloc (Obj.cells #[.int .i64 o0, .int .i64 q0, .int .i64 o1, .int .i64 q1, .int .i64 o2, .int .i64 q2] 155)).heap.size := by simp
   replace A0 := cell_next hal nA A0
   replace A1 := cell_next hal nA A1
   replace nA := Nat.lt_of_lt_of_le nA hal.size
   have hB5 := hbr.alloc hbr.size (Obj.cells #[.int .i64 o0, .int .i64 q0, .int .i64 o1, .int .i64 q1, .int .i64 o2, .int .i64 q2] 155)
   replace HO := Lib.hid (own_below HO.out hal)
   have hBW := hB5.size
   have HKR := Lib.hid (fun r (hr : Value.ownBlock u8 = some r) => (World.ownsRow.lt HO.out r hr).2)
   clear hal E0 E1 E2 E3 E4 E5 hbr
   generalize wr.alloc (Obj.cells #[.int .i64 o0, .int .i64 q0, .int .i64 o1, .int .i64 q1, .int .i64 o2, .int .i64 q2] 155) = W5 at *
   generalize wr.heap.size = b4 at *
   refine wp_region_held_drew (S := fun w' => w'.cell? ⟨b4, 2, none⟩ = some (.int .i64 o1) ∧ w'.cell? ⟨b4, 3, none⟩ = some (.int .i64 q1) ∧ True) (by kernel_rfl) ?_ (fun hHeld => ?_)
   focus (exact ⟨e0, e1, trivial⟩)
   have hL : Below w.heap.size W5 W5.drew := Below.drew (Below.refl _ _)
   replace e0 : W5.drew.cell? ⟨b4, 2, none⟩ = some (.int .i64 o1) := e0
   replace e1 : W5.drew.cell? ⟨b4, 3, none⟩ = some (.int .i64 q1) := e1
   replace A0 : W5.drew.cell? ⟨w.heap.size + 1, 0, none⟩ = some (.int .i64 a1) := A0
   replace A1 : W5.drew.cell? ⟨w.heap.size + 1, 1, none⟩ = some (.int .i64 b1) := A1
   replace ne : b4 < W5.drew.heap.size := ne
   replace nA : w.heap.size + 1 < W5.drew.heap.size := nA
   replace HO := Lib.hid HO.out.drew
   generalize hWd : W5.drew = wd at hHeld hL e0 e1 A0 A1 ne nA HO ⊢
   clear hWd
   refine tq 0 25 ?_ ?_ ?_; rotate_left; (focus intro w h; (try dsimp only at h); go_simp; try with_reducible rfl); try simp only [sA, sB, sC]
   refine tq 1 26 ?_ ?_ ?_; rotate_left; (focus intro w h; (try dsimp only at h); go_simp; try with_reducible rfl); try simp only [sA, sB, sC]
   refine tq 2 27 ?_ ?_ ?_; rotate_left; (focus intro w h; (try dsimp only at h); go_simp; try with_reducible rfl); try simp only [sA, sB, sC]
   refine tq 3 28 ?_ ?_ ?_; rotate_left; (focus intro w h; (try dsimp only at h); go_simp; try with_reducible rfl); try simp only [sA, sB, sC]
   refine tq 4 29 ?_ ?_ ?_; rotate_left; (focus intro w h; (try dsimp only at h); go_simp; try with_reducible rfl); try simp only [sA, sB, sC]
   refine tq 5 30 ?_ ?_ ?_; rotate_left; (focus intro w h; (try dsimp only at h); go_simp; try with_reducible rfl); try simp only [sA, sB, sC]
   refine tq 6 31 ?_ ?_ ?_; rotate_left; (focus intro w h; (try dsimp only at h); go_simp; try with_reducible rfl); try simp only [sA, sB, sC]
   refine tq 7 32 ?_ ?_ ?_; rotate_left; (focus intro w h; (try dsimp only at h); go_simp; try with_reducible rfl); try simp only [sA, sB, sC]
   refine tq 8 33 ?_ ?_ ?_; rotate_left; (focus intro w h; (try dsimp only at h); go_simp; try with_reducible rfl); try simp only [sA, sB, sC]
   refine tq 11 36 ?_ ?_ ?_; rotate_left; (focus intro w h; (try dsimp only at h); go_simp; try with_reducible rfl); try simp only [sA, sB, sC]
   refine rd1 9 (fun K hK => ?_)
   go_simp
   have hb := (Below.refl wd.heap.size wd).alloc (Nat.le_refl _) (Obj.cells #[.int .i64 o1, .int .i64 N1] 3)
   have szZ1 := hL.size
   have ord1ne := ne
   have ord1nA := nA
   replace e0 := cell_next hb ne e0
   replace e1 := cell_next hb ne e1
   replace A0 := cell_next hb nA A0
   replace A1 := cell_next hb nA A1
   replace ne := Nat.lt_of_lt_of_le ne hb.size
   replace nA := Nat.lt_of_lt_of_le nA hb.size
   replace hL := hL.trans (hb.mono (Nat.le_trans hBW hL.size))
   replace HO := Lib.hid (own_below HO.out hb)
   have K0 : (wd.alloc (Obj.cells #[.int .i64 o1, .int .i64 N1] 3)).cell? ⟨wd.heap.size, 0, none⟩ = some (.int .i64 o1) := cell_new _ _ _ 0
   have K1 : (wd.alloc (Obj.cells #[.int .i64 o1, .int .i64 N1] 3)).cell? ⟨wd.heap.size, 1, none⟩ = some (.int .i64 N1) := cell_new _ _ _ 1
   have nK : wd.heap.size < (wd.alloc (Obj.cells #[.int .i64 o1, .int .i64 N1] 3)).heap.size := by simp
   refine hK.out _ _ ⟨e0, e1, trivial⟩ (fun hHeld => ?_)
   clear hK K hb
   generalize wd.alloc (Obj.cells #[.int .i64 o1, .int .i64 N1] 3) = Z1 at *
   try simp only [Act.put, sA, sB, sC]
   refine tq 10 35 ?_ ?_ ?_; rotate_left; (focus intro w h; (try dsimp only at h); go_simp; try with_reducible rfl); try simp only [sA, sB, sC]
   refine wpAnyH_done (by kernel_rfl) ?_ _
   have hB6 := hB5.trans hL
   clear hHeld hL e0 e1 ne hB5 hBW
   generalize wd.heap.size = KB at *
   have HRK := Lib.hid (fun r (hr : Value.ownBlock u8 = some r) => (by have := HKR.out r hr; omega : r ≠ KB))
   clear HKR szZ1
   go_wp2_with fail
   go_loopw [8, 36] (fun sv i wr => ∃ j m' : Nat, j ≤ 2 ∧ i = .int .i64 j ∧ Hid ((stpK 1 c os k j).length = m') ∧ Hid (wr.ownsRow (w.heap.size + 2) 3 1 sv m' (intsJ (stpK 1 c os k j))) ∧ Below w.heap.size w wr ∧ w.heap.size + 1 < wr.heap.size ∧ wr.cell? ⟨w.heap.size + 1, 0, none⟩ = some (.int .i64 a1) ∧ wr.cell? ⟨w.heap.size + 1, 1, none⟩ = some (.int .i64 b1) ∧ KB < wr.heap.size ∧ wr.cell? ⟨KB, 0, none⟩ = some (.int .i64 o1) ∧ wr.cell? ⟨KB, 1, none⟩ = some (.int .i64 N1) ∧ Hid (∀ r, Value.ownBlock sv = some r → r ≠ KB)) (fun _ i _ => 2 - (RowKit.intOf i).toNat)
   case atStart => exact ⟨0, m, by omega, rfl, hm, HO, hB6, nA, A0, A1, nK, K0, K1, HRK⟩
   case round =>
    clear HO hm hB6 nA A0 A1 nK K0 K1 HRK
    obtain ⟨j, m', hj, rfl, hm', HO, hbr, nA, A0, A1, nK, K0, K1, HRK⟩ := hrel
    by_cases hlj : (j : Int) < 2
    ·obtain ⟨x, hx⟩ : ∃ x, ([o1, N1] : List Int)[j]? = some x := ⟨_, List.getElem?_eq_getElem (by simp; omega)⟩
     have HJ := Lib.hid (HN1.out j x hx)
     have qx : wr.cell? ⟨KB, j, none⟩ = some (.int .i64 x) := by
      obtain rfl | rfl : j = 0 ∨ j = 1 := by omega
      ·simp at hx; subst hx; exact K0
      ·simp at hx; subst hx; exact K1
     have C1x := Lib.hid (C1.out x)
     have HB := Lib.hid hbr
     clear hx
     generalize inB a1 b1 x = z at *
     cases z
     ·have HO' : Hid (wr.ownsRow (w.heap.size + 2) 3 1 u8 m' (intsJ (stpK 1 c os k (j + 1)))) := Lib.hid (by rw [HJ.out]; exact HO.out)
      have hm2 : Hid ((stpK 1 c os k (j + 1)).length = m') := Lib.hid (by rw [HJ.out]; exact hm'.out)
      clear HO hm' HJ
      go_wp2_with fail
      refine (C1x.out _ _ _ (by simp) (by simp [go_sem])).mono ?_
      rintro e W9 ⟨rfl, hb9⟩
      have hb9' := below1 hb9
      have hB9 := hbr.trans (hb9'.mono hbr.size)
      replace A0 := cell_next hb9' nA A0
      replace A1 := cell_next hb9' nA A1
      replace K0 := cell_next hb9' nK K0
      replace K1 := cell_next hb9' nK K1
      replace nA := Nat.lt_of_lt_of_le nA hb9'.size
      replace nK := Nat.lt_of_lt_of_le nK hb9'.size
      replace HO' := Lib.hid (own_below HO'.out hb9')
      clear hb9 hb9' hbr HB qx
      go_wp2_with fail
      go_roundw
      case rel => exact ⟨j + 1, m', by omega, by go_num, hm2, HO', hB9, nA, A0, A1, nK, K0, K1, HRK⟩
      case measure => simp [RowKit.intOf]; omega
     ·have hm2 : Hid ((stpK 1 c os k (j + 1)).length = m' + 1) := Lib.hid (by rw [HJ.out]; simp [hm'.out])
      have hx2 : Hid (intsJ (stpK 1 c os k (j + 1)) = intsJ (stpK 1 c os k j) ++ [.int .i64 x]) := Lib.hid (by rw [HJ.out]; simp [intsJ])
      have hmb : m' ≤ 3000 := by have := HL.out k j; have := hm'.out; have := Hn.out; omega
      clear hm' HJ
      go_wp2_with fail
      refine (C1x.out _ _ _ (by simp) (by simp [go_sem])).mono ?_
      rintro e W9 ⟨rfl, hb9⟩
      have hb9' := below1 hb9
      have hB9 := hbr.trans (hb9'.mono hbr.size)
      replace A0 := cell_next hb9' nA A0
      replace A1 := cell_next hb9' nA A1
      replace K0 := cell_next hb9' nK K0
      replace K1 := cell_next hb9' nK K1
      replace nA := Nat.lt_of_lt_of_le nA hb9'.size
      replace nK := Nat.lt_of_lt_of_le nK hb9'.size
      replace HO := Lib.hid (own_below HO.out hb9')
      clear hb9 hb9' hbr HB qx
      go_wp2_with (at_builtin; refine wpList_append_own_at _ rfl (.tmp 47) (.tmp 49) 54 rfl (w.heap.size + 2) 3 i0 (.int .i64 0) 1 8 Tryz.underlying54 hi0 hz0 hz1 hz2 rfl (by decide) _ m' (intsJ (stpK 1 c os k j)) rfl (HO.out.alloc _) ⟨W9.heap.size, 0, none⟩ 1 1 [.int .i64 x] rfl rfl ?_ ?_ ?_ ?_ ?_ ?_)
      case refine_1 =>
       intro i u hi
       rcases i with _ | i
       ·simp at hi; subst hi; exact cell_new _ _ _ 0
       ·simp at hi
      case refine_2 => simp [Value.oneCell']
      case refine_3 => unfold maxLen; omega
      case refine_4 => omega
      case refine_5 => have := hB9.size; simp; omega
      case refine_6 =>
       intro sv' W10 hown' hgrow _ hat
       have hrow : ∀ r, Value.ownBlock _ = some r → w.heap.size + 2 ≤ r := fun r hr => (World.ownsRow.lt HO.out r hr).1
       have hal3 := (Below.refl W9.heap.size W9).alloc (Nat.le_refl _) (Obj.cells #[.int .i64 x] 3)
       have hkr := HRK.out
       have HRK' : Hid (∀ r, Value.ownBlock sv' = some r → r ≠ KB) := Lib.hid (fun r hr => by
        rcases hat with h | h
        ·exact hkr r (h.symm.trans hr)
        ·rw [h] at hr; injection hr with hr; have := hal3.size; omega)
       have hB10 := (hB9.alloc hB9.size (Obj.cells #[.int .i64 x] 3)).grown hgrow (by have := hB9.size; simp; omega) (fun r hr => by have := hrow r hr; omega)
       replace A0 := grown_cell' hgrow (Nat.lt_of_lt_of_le nA hal3.size) (fun r hr => by have := hrow r hr; omega) (cell_next hal3 nA A0)
       replace A1 := grown_cell' hgrow (Nat.lt_of_lt_of_le nA hal3.size) (fun r hr => by have := hrow r hr; omega) (cell_next hal3 nA A1)
       replace K0 := grown_cell' hgrow (Nat.lt_of_lt_of_le nK hal3.size) (fun r hr => (hkr r hr).symm) (cell_next hal3 nK K0)
       replace K1 := grown_cell' hgrow (Nat.lt_of_lt_of_le nK hal3.size) (fun r hr => (hkr r hr).symm) (cell_next hal3 nK K1)
       replace nA := Nat.lt_of_lt_of_le (Nat.lt_of_lt_of_le nA hal3.size) hgrow.size
       replace nK := Nat.lt_of_lt_of_le (Nat.lt_of_lt_of_le nK hal3.size) hgrow.size
       have HO' : Hid (W10.ownsRow (w.heap.size + 2) 3 1 sv' (m' + 1) (intsJ (stpK 1 c os k (j + 1)))) := Lib.hid (by rw [hx2.out]; exact hown')
       clear hown' hgrow hat hrow hal3 HO hx2 hkr HRK
       go_wp2_with fail
       go_roundw
       case rel => exact ⟨j + 1, m' + 1, by omega, by go_num, hm2, HO', hB10, nA, A0, A1, nK, K0, K1, HRK'⟩
       case measure => simp [RowKit.intOf]; omega
    ·obtain rfl : j = 2 := by omega
     have HO' : Hid (wr.ownsRow (w.heap.size + 2) 3 1 u8 m' (intsJ (stpK 1 c os (k + 1) 0))) := Lib.hid (by rw [← H2k.out]; exact HO.out)
     have hm2 : Hid ((stpK 1 c os (k + 1) 0).length = m') := Lib.hid (by rw [← H2k.out]; exact hm'.out)
     clear HO hm'
     go_wp2_with fail
     go_roundw
     case rel => exact ⟨k + 1, m', by omega, by go_num, hm2, HO', hbr, nA, A0, A1⟩
     case measure => simp [RowKit.intOf]; omega
  ·obtain rfl : k = n := by omega
   have hE := HE.out
   rw [Hn.out] at hE
   have HF := Lib.hid (show wr.ownsRow w.heap.size 3 1 u8 (stpL 1 c os).length (intsJ (stpL 1 c os)) from by rw [← hE, hm.out]; exact own_monoJ HO.out (by omega))
   clear HO hE
   go_wp2_with fail
   exact HQ.out _ _ HF.out hbr

set_option maxRecDepth 20000 in
set_option maxHeartbeats 4000000 in
theorem steps2_any (a0 b0 a1 b1 a2 b2 : Int) (os : List Cu) (v : Value) (w : World) (hl : os.length ≤ 1000) (hbd : ∀ o ∈ os, -1000000000000000 ≤ (axR 2 o).2 ∧ (axR 2 o).2 ≤ 1000000000000000) (hv : RsAt 6 cCu w.heap.size w v os) :
  Calls Tryz.prog 125 #[.agg #[.int .i64 a0, .int .i64 b0, .int .i64 a1, .int .i64 b1, .int .i64 a2, .int .i64 b2], .int .i64 2, v] w (StpPost w (stpL 2 ⟨a0, b0, a1, b1, a2, b2⟩ os)) := by
 obtain ⟨i0, hi0, hz0, hz1, hz2⟩ := info_parts infoJI
 have C1 := Lib.hid (fun (n : Int) (W : World) (g c : Nat) => jin1v_any a2 b2 n g c W)
 obtain ⟨A, cp, rfl, hr⟩ := hv
 obtain ⟨c, hc⟩ : ∃ c : Cu, ⟨a0, b0, a1, b1, a2, b2⟩ = c := ⟨_, rfl⟩
 have hax : Hid (axR 2 c = (a2, b2)) := Lib.hid (by rw [← hc]; rfl)
 rw [hc]
 clear hc
 have HN := Lib.hid (fun (k j : Nat) (o : Cu) (n : Int) (h : os[k]? = some o) hj => (stpK_next 2 c os k j o n h hj).trans (by rw [hax.out]))
 have HL := Lib.hid (stpK_len 2 c os)
 have H0 := Lib.hid (show stpK 2 c os 0 0 = [a2] by rw [stpK_zero, hax.out]; simp)
 have HE := Lib.hid (stpK_end 2 c os)
 have H2 := Lib.hid (stpK_two 2 c os)
 have HBD := Lib.hid hbd
 obtain ⟨Q, hQ⟩ : ∃ Q, StpPost w (stpL 2 c os) = Q := ⟨_, rfl⟩
 have HQ : Hid (∀ v w', w'.ownsRow w.heap.size 3 1 v (stpL 2 c os).length (intsJ (stpL 2 c os)) → Below w.heap.size w w' → Q (.returned v) w') := Lib.hid (fun v w' h h' => by rw [← hQ]; exact ⟨v, rfl, h, h'⟩)
 rw [hQ]
 obtain ⟨n, hn⟩ : ∃ n, os.length = n := ⟨_, rfl⟩
 rw [hn] at hr hl ⊢
 have Hn := Lib.hid hn
 have HR := Lib.hid hr
 clear hn hr hbd hQ hax
 go_enter Tryz.func125, Tryz.ntmps125
 have hown0 : ∀ (W : World) (B : Nat), B ≤ W.heap.size → (W.alloc (.cells #[.int .i64 a2] 3)).ownsRow B 3 1 (.slice (some ⟨W.heap.size, 0, none⟩) 1 1) 1 [.int .i64 a2] := fun W B hB =>
  ⟨rfl, .inr ⟨W.heap.size, 1, #[.int .i64 a2], rfl, hB, heap_alloc_new W _, Nat.le_refl _, (by unfold maxLen; omega), rfl, rfl⟩⟩
 go_wp2_with fail
 have HO0 := Lib.hid (hown0 ((w.alloc (Obj.cells #[.int .i64 a0, .int .i64 b0, .int .i64 a1, .int .i64 b1, .int .i64 a2, .int .i64 b2] 155)).alloc (Obj.cells #[.int .i64 a2, .int .i64 b2] 24)) (w.heap.size + 2) (by simp))
 clear hown0
 go_loopw [8, 21] (fun sv i wr => ∃ k m : Nat, k ≤ n ∧ i = .int .i64 k ∧ Hid ((stpK 2 c os k 0).length = m) ∧ Hid (wr.ownsRow (w.heap.size + 2) 3 1 sv m (intsJ (stpK 2 c os k 0))) ∧ Below w.heap.size w wr ∧ w.heap.size + 1 < wr.heap.size ∧ wr.cell? ⟨w.heap.size + 1, 0, none⟩ = some (.int .i64 a2) ∧ wr.cell? ⟨w.heap.size + 1, 1, none⟩ = some (.int .i64 b2)) (fun _ i _ => n - (RowKit.intOf i).toNat)
 case atStart =>
  refine ⟨0, 1, Nat.zero_le _, rfl, Lib.hid (by rw [H0.out]; rfl), Lib.hid (by rw [H0.out]; simpa [intsJ] using HO0.out), (((Below.refl _ _).alloc (Nat.le_refl _) _).alloc (by simp) _).alloc (by simp <;> omega) _, by simp <;> omega, ?_, ?_⟩ <;> simp [go_sem]
 case round =>
  clear HO0 H0
  obtain ⟨k, m, hk, rfl, hm, HO, hbr, nA, A0, A1⟩ := hrel
  by_cases hlt : (k : Int) < (n : Int)
  ·obtain ⟨o, hp⟩ : ∃ o, os[k]? = some o := ⟨_, List.getElem?_eq_getElem (by have := Hn.out; omega)⟩
   have hob := HBD.out o (List.mem_of_getElem? hp)
   have HN1 := Lib.hid (fun (j : Nat) (n : Int) hj => HN.out k j o n hp hj)
   have H2k := Lib.hid (H2.out k (by have := Hn.out; omega))
   obtain ⟨g, off, rfl, hg, hcc⟩ := HR.out (by omega)
   obtain ⟨o0, q0, o1, q1, o2, q2⟩ := o
   have E0 : wr.cell? ⟨g, off + k * 6, none⟩ = some (.int .i64 o0) := cell_next hbr hg (hcc k _ hp 0 _ rfl)
   have E1 : wr.cell? ⟨g, off + k * 6 + 1, none⟩ = some (.int .i64 q0) := cell_next hbr hg (hcc k _ hp 1 _ rfl)
   have E2 : wr.cell? ⟨g, off + k * 6 + 2, none⟩ = some (.int .i64 o1) := cell_next hbr hg (hcc k _ hp 2 _ rfl)
   have E3 : wr.cell? ⟨g, off + k * 6 + 3, none⟩ = some (.int .i64 q1) := cell_next hbr hg (hcc k _ hp 3 _ rfl)
   have E4 : wr.cell? ⟨g, off + k * 6 + 4, none⟩ = some (.int .i64 o2) := cell_next hbr hg (hcc k _ hp 4 _ rfl)
   have E5 : wr.cell? ⟨g, off + k * 6 + 5, none⟩ = some (.int .i64 q2) := cell_next hbr hg (hcc k _ hp 5 _ rfl)
   simp [axR] at hob
   have y1 : IntKind.i64.wrap (q2 + 1) = q2 + 1 := IntWalk.i64_in _ (by omega)
   obtain ⟨N1, hN1⟩ : ∃ N, q2 + 1 = N := ⟨_, rfl⟩
   replace y1 : IntKind.i64.wrap (q2 + 1) = N1 := y1.trans hN1
   have HP : Hid (([o2, N1] : List Int) = [(axR 2 ⟨o0, q0, o1, q1, o2, q2⟩).1, (axR 2 ⟨o0, q0, o1, q1, o2, q2⟩).2 + 1]) := Lib.hid (by rw [← hN1]; rfl)
   rw [← HP.out] at HN1
   clear hcc hp hob hN1 HP
   go_wp2_with fail
   have hal := (Below.refl wr.heap.size wr).alloc (Nat.le_refl _) (Obj.cells #[.int .i64 o0, .int .i64 q0, .int .i64 o1, .int .i64 q1, .int .i64 o2, .int .i64 q2] 155)
   have e0 : (wr.alloc (Obj.cells #[.int .i64 o0, .int .i64 q0, .int .i64 o1, .int .i64 q1, .int .i64 o2, .int .i64 q2] 155)).cell? ⟨wr.heap.size, 4, none⟩ = some (.int .i64 o2) := cell_new _ _ _ 4
   have e1 : (wr.alloc (Obj.cells #[.int .i64 o0, .int .i64 q0, .int .i64 o1, .int .i64 q1, .int .i64 o2, .int .i64 q2] 155)).cell? ⟨wr.heap.size, 5, none⟩ = some (.int .i64 q2) := cell_new _ _ _ 5
   have ne : wr.heap.size < (wr.alloc (Obj.cells #[.int .i64 o0, .int .i64 q0, .int .i64 o1, .int .i64 q1, .int .i64 o2, .int .i64 q2] 155)).heap.size := by simp
   replace A0 := cell_next hal nA A0
   replace A1 := cell_next hal nA A1
   replace nA := Nat.lt_of_lt_of_le nA hal.size
   have hB5 := hbr.alloc hbr.size (Obj.cells #[.int .i64 o0, .int .i64 q0, .int .i64 o1, .int .i64 q1, .int .i64 o2, .int .i64 q2] 155)
   replace HO := Lib.hid (own_below HO.out hal)
   have hBW := hB5.size
   have HKR := Lib.hid (fun r (hr : Value.ownBlock u8 = some r) => (World.ownsRow.lt HO.out r hr).2)
   clear hal E0 E1 E2 E3 E4 E5 hbr
   generalize wr.alloc (Obj.cells #[.int .i64 o0, .int .i64 q0, .int .i64 o1, .int .i64 q1, .int .i64 o2, .int .i64 q2] 155) = W5 at *
   generalize wr.heap.size = b4 at *
   refine wp_region_held_drew (S := fun w' => w'.cell? ⟨b4, 4, none⟩ = some (.int .i64 o2) ∧ w'.cell? ⟨b4, 5, none⟩ = some (.int .i64 q2) ∧ True) (by kernel_rfl) ?_ (fun hHeld => ?_)
   focus (exact ⟨e0, e1, trivial⟩)
   have hL : Below w.heap.size W5 W5.drew := Below.drew (Below.refl _ _)
   replace e0 : W5.drew.cell? ⟨b4, 4, none⟩ = some (.int .i64 o2) := e0
   replace e1 : W5.drew.cell? ⟨b4, 5, none⟩ = some (.int .i64 q2) := e1
   replace A0 : W5.drew.cell? ⟨w.heap.size + 1, 0, none⟩ = some (.int .i64 a2) := A0
   replace A1 : W5.drew.cell? ⟨w.heap.size + 1, 1, none⟩ = some (.int .i64 b2) := A1
   replace ne : b4 < W5.drew.heap.size := ne
   replace nA : w.heap.size + 1 < W5.drew.heap.size := nA
   replace HO := Lib.hid HO.out.drew
   generalize hWd : W5.drew = wd at hHeld hL e0 e1 A0 A1 ne nA HO ⊢
   clear hWd
   refine tq 0 25 ?_ ?_ ?_; rotate_left; (focus intro w h; (try dsimp only at h); go_simp; try with_reducible rfl); try simp only [sA, sB, sC]
   refine tq 1 26 ?_ ?_ ?_; rotate_left; (focus intro w h; (try dsimp only at h); go_simp; try with_reducible rfl); try simp only [sA, sB, sC]
   refine tq 2 27 ?_ ?_ ?_; rotate_left; (focus intro w h; (try dsimp only at h); go_simp; try with_reducible rfl); try simp only [sA, sB, sC]
   refine tq 3 28 ?_ ?_ ?_; rotate_left; (focus intro w h; (try dsimp only at h); go_simp; try with_reducible rfl); try simp only [sA, sB, sC]
   refine tq 4 29 ?_ ?_ ?_; rotate_left; (focus intro w h; (try dsimp only at h); go_simp; try with_reducible rfl); try simp only [sA, sB, sC]
   refine tq 5 30 ?_ ?_ ?_; rotate_left; (focus intro w h; (try dsimp only at h); go_simp; try with_reducible rfl); try simp only [sA, sB, sC]
   refine tq 6 31 ?_ ?_ ?_; rotate_left; (focus intro w h; (try dsimp only at h); go_simp; try with_reducible rfl); try simp only [sA, sB, sC]
   refine tq 7 32 ?_ ?_ ?_; rotate_left; (focus intro w h; (try dsimp only at h); go_simp; try with_reducible rfl); try simp only [sA, sB, sC]
   refine tq 8 33 ?_ ?_ ?_; rotate_left; (focus intro w h; (try dsimp only at h); go_simp; try with_reducible rfl); try simp only [sA, sB, sC]
   refine tq 11 36 ?_ ?_ ?_; rotate_left; (focus intro w h; (try dsimp only at h); go_simp; try with_reducible rfl); try simp only [sA, sB, sC]
   refine rd1 9 (fun K hK => ?_)
   go_simp
   have hb := (Below.refl wd.heap.size wd).alloc (Nat.le_refl _) (Obj.cells #[.int .i64 o2, .int .i64 N1] 3)
   have szZ1 := hL.size
   have ord1ne := ne
   have ord1nA := nA
   replace e0 := cell_next hb ne e0
   replace e1 := cell_next hb ne e1
   replace A0 := cell_next hb nA A0
   replace A1 := cell_next hb nA A1
   replace ne := Nat.lt_of_lt_of_le ne hb.size
   replace nA := Nat.lt_of_lt_of_le nA hb.size
   replace hL := hL.trans (hb.mono (Nat.le_trans hBW hL.size))
   replace HO := Lib.hid (own_below HO.out hb)
   have K0 : (wd.alloc (Obj.cells #[.int .i64 o2, .int .i64 N1] 3)).cell? ⟨wd.heap.size, 0, none⟩ = some (.int .i64 o2) := cell_new _ _ _ 0
   have K1 : (wd.alloc (Obj.cells #[.int .i64 o2, .int .i64 N1] 3)).cell? ⟨wd.heap.size, 1, none⟩ = some (.int .i64 N1) := cell_new _ _ _ 1
   have nK : wd.heap.size < (wd.alloc (Obj.cells #[.int .i64 o2, .int .i64 N1] 3)).heap.size := by simp
   refine hK.out _ _ ⟨e0, e1, trivial⟩ (fun hHeld => ?_)
   clear hK K hb
   generalize wd.alloc (Obj.cells #[.int .i64 o2, .int .i64 N1] 3) = Z1 at *
   try simp only [Act.put, sA, sB, sC]
   refine tq 10 35 ?_ ?_ ?_; rotate_left; (focus intro w h; (try dsimp only at h); go_simp; try with_reducible rfl); try simp only [sA, sB, sC]
   refine wpAnyH_done (by kernel_rfl) ?_ _
   have hB6 := hB5.trans hL
   clear hHeld hL e0 e1 ne hB5 hBW
   generalize wd.heap.size = KB at *
   have HRK := Lib.hid (fun r (hr : Value.ownBlock u8 = some r) => (by have := HKR.out r hr; omega : r ≠ KB))
   clear HKR szZ1
   go_wp2_with fail
   go_loopw [8, 36] (fun sv i wr => ∃ j m' : Nat, j ≤ 2 ∧ i = .int .i64 j ∧ Hid ((stpK 2 c os k j).length = m') ∧ Hid (wr.ownsRow (w.heap.size + 2) 3 1 sv m' (intsJ (stpK 2 c os k j))) ∧ Below w.heap.size w wr ∧ w.heap.size + 1 < wr.heap.size ∧ wr.cell? ⟨w.heap.size + 1, 0, none⟩ = some (.int .i64 a2) ∧ wr.cell? ⟨w.heap.size + 1, 1, none⟩ = some (.int .i64 b2) ∧ KB < wr.heap.size ∧ wr.cell? ⟨KB, 0, none⟩ = some (.int .i64 o2) ∧ wr.cell? ⟨KB, 1, none⟩ = some (.int .i64 N1) ∧ Hid (∀ r, Value.ownBlock sv = some r → r ≠ KB)) (fun _ i _ => 2 - (RowKit.intOf i).toNat)
   case atStart => exact ⟨0, m, by omega, rfl, hm, HO, hB6, nA, A0, A1, nK, K0, K1, HRK⟩
   case round =>
    clear HO hm hB6 nA A0 A1 nK K0 K1 HRK
    obtain ⟨j, m', hj, rfl, hm', HO, hbr, nA, A0, A1, nK, K0, K1, HRK⟩ := hrel
    by_cases hlj : (j : Int) < 2
    ·obtain ⟨x, hx⟩ : ∃ x, ([o2, N1] : List Int)[j]? = some x := ⟨_, List.getElem?_eq_getElem (by simp; omega)⟩
     have HJ := Lib.hid (HN1.out j x hx)
     have qx : wr.cell? ⟨KB, j, none⟩ = some (.int .i64 x) := by
      obtain rfl | rfl : j = 0 ∨ j = 1 := by omega
      ·simp at hx; subst hx; exact K0
      ·simp at hx; subst hx; exact K1
     have C1x := Lib.hid (C1.out x)
     have HB := Lib.hid hbr
     clear hx
     generalize inB a2 b2 x = z at *
     cases z
     ·have HO' : Hid (wr.ownsRow (w.heap.size + 2) 3 1 u8 m' (intsJ (stpK 2 c os k (j + 1)))) := Lib.hid (by rw [HJ.out]; exact HO.out)
      have hm2 : Hid ((stpK 2 c os k (j + 1)).length = m') := Lib.hid (by rw [HJ.out]; exact hm'.out)
      clear HO hm' HJ
      go_wp2_with fail
      refine (C1x.out _ _ _ (by simp) (by simp [go_sem])).mono ?_
      rintro e W9 ⟨rfl, hb9⟩
      have hb9' := below1 hb9
      have hB9 := hbr.trans (hb9'.mono hbr.size)
      replace A0 := cell_next hb9' nA A0
      replace A1 := cell_next hb9' nA A1
      replace K0 := cell_next hb9' nK K0
      replace K1 := cell_next hb9' nK K1
      replace nA := Nat.lt_of_lt_of_le nA hb9'.size
      replace nK := Nat.lt_of_lt_of_le nK hb9'.size
      replace HO' := Lib.hid (own_below HO'.out hb9')
      clear hb9 hb9' hbr HB qx
      go_wp2_with fail
      go_roundw
      case rel => exact ⟨j + 1, m', by omega, by go_num, hm2, HO', hB9, nA, A0, A1, nK, K0, K1, HRK⟩
      case measure => simp [RowKit.intOf]; omega
     ·have hm2 : Hid ((stpK 2 c os k (j + 1)).length = m' + 1) := Lib.hid (by rw [HJ.out]; simp [hm'.out])
      have hx2 : Hid (intsJ (stpK 2 c os k (j + 1)) = intsJ (stpK 2 c os k j) ++ [.int .i64 x]) := Lib.hid (by rw [HJ.out]; simp [intsJ])
      have hmb : m' ≤ 3000 := by have := HL.out k j; have := hm'.out; have := Hn.out; omega
      clear hm' HJ
      go_wp2_with fail
      refine (C1x.out _ _ _ (by simp) (by simp [go_sem])).mono ?_
      rintro e W9 ⟨rfl, hb9⟩
      have hb9' := below1 hb9
      have hB9 := hbr.trans (hb9'.mono hbr.size)
      replace A0 := cell_next hb9' nA A0
      replace A1 := cell_next hb9' nA A1
      replace K0 := cell_next hb9' nK K0
      replace K1 := cell_next hb9' nK K1
      replace nA := Nat.lt_of_lt_of_le nA hb9'.size
      replace nK := Nat.lt_of_lt_of_le nK hb9'.size
      replace HO := Lib.hid (own_below HO.out hb9')
      clear hb9 hb9' hbr HB qx
      go_wp2_with (at_builtin; refine wpList_append_own_at _ rfl (.tmp 47) (.tmp 49) 54 rfl (w.heap.size + 2) 3 i0 (.int .i64 0) 1 8 Tryz.underlying54 hi0 hz0 hz1 hz2 rfl (by decide) _ m' (intsJ (stpK 2 c os k j)) rfl (HO.out.alloc _) ⟨W9.heap.size, 0, none⟩ 1 1 [.int .i64 x] rfl rfl ?_ ?_ ?_ ?_ ?_ ?_)
      case refine_1 =>
       intro i u hi
       rcases i with _ | i
       ·simp at hi; subst hi; exact cell_new _ _ _ 0
       ·simp at hi
      case refine_2 => simp [Value.oneCell']
      case refine_3 => unfold maxLen; omega
      case refine_4 => omega
      case refine_5 => have := hB9.size; simp; omega
      case refine_6 =>
       intro sv' W10 hown' hgrow _ hat
       have hrow : ∀ r, Value.ownBlock _ = some r → w.heap.size + 2 ≤ r := fun r hr => (World.ownsRow.lt HO.out r hr).1
       have hal3 := (Below.refl W9.heap.size W9).alloc (Nat.le_refl _) (Obj.cells #[.int .i64 x] 3)
       have hkr := HRK.out
       have HRK' : Hid (∀ r, Value.ownBlock sv' = some r → r ≠ KB) := Lib.hid (fun r hr => by
        rcases hat with h | h
        ·exact hkr r (h.symm.trans hr)
        ·rw [h] at hr; injection hr with hr; have := hal3.size; omega)
       have hB10 := (hB9.alloc hB9.size (Obj.cells #[.int .i64 x] 3)).grown hgrow (by have := hB9.size; simp; omega) (fun r hr => by have := hrow r hr; omega)
       replace A0 := grown_cell' hgrow (Nat.lt_of_lt_of_le nA hal3.size) (fun r hr => by have := hrow r hr; omega) (cell_next hal3 nA A0)
       replace A1 := grown_cell' hgrow (Nat.lt_of_lt_of_le nA hal3.size) (fun r hr => by have := hrow r hr; omega) (cell_next hal3 nA A1)
       replace K0 := grown_cell' hgrow (Nat.lt_of_lt_of_le nK hal3.size) (fun r hr => (hkr r hr).symm) (cell_next hal3 nK K0)
       replace K1 := grown_cell' hgrow (Nat.lt_of_lt_of_le nK hal3.size) (fun r hr => (hkr r hr).symm) (cell_next hal3 nK K1)
       replace nA := Nat.lt_of_lt_of_le (Nat.lt_of_lt_of_le nA hal3.size) hgrow.size
       replace nK := Nat.lt_of_lt_of_le (Nat.lt_of_lt_of_le nK hal3.size) hgrow.size
       have HO' : Hid (W10.ownsRow (w.heap.size + 2) 3 1 sv' (m' + 1) (intsJ (stpK 2 c os k (j + 1)))) := Lib.hid (by rw [hx2.out]; exact hown')
       clear hown' hgrow hat hrow hal3 HO hx2 hkr HRK
       go_wp2_with fail
       go_roundw
       case rel => exact ⟨j + 1, m' + 1, by omega, by go_num, hm2, HO', hB10, nA, A0, A1, nK, K0, K1, HRK'⟩
       case measure => simp [RowKit.intOf]; omega
    ·obtain rfl : j = 2 := by omega
     have HO' : Hid (wr.ownsRow (w.heap.size + 2) 3 1 u8 m' (intsJ (stpK 2 c os (k + 1) 0))) := Lib.hid (by rw [← H2k.out]; exact HO.out)
     have hm2 : Hid ((stpK 2 c os (k + 1) 0).length = m') := Lib.hid (by rw [← H2k.out]; exact hm'.out)
     clear HO hm'
     go_wp2_with fail
     go_roundw
     case rel => exact ⟨k + 1, m', by omega, by go_num, hm2, HO', hbr, nA, A0, A1⟩
     case measure => simp [RowKit.intOf]; omega
  ·obtain rfl : k = n := by omega
   have hE := HE.out
   rw [Hn.out] at hE
   have HF := Lib.hid (show wr.ownsRow w.heap.size 3 1 u8 (stpL 2 c os).length (intsJ (stpL 2 c os)) from by rw [← hE, hm.out]; exact own_monoJ HO.out (by omega))
   clear HO hE
   go_wp2_with fail
   exact HQ.out _ _ HF.out hbr
end Go.Proofs.YtgklpbgdimkhaaaGreat
