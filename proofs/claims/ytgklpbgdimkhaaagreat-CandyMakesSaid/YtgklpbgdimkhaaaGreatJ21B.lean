/- Contracts of the reference of chapter 11: greater, Act. -/
import Derived.Test.YtgklpbgdimkhaaaGreatJ18B
import Derived.Deep.QuietTactic
import Derived.BigQuiet
import Derived.Deep.DeepCutAuto
namespace Go.Proofs.YtgklpbgdimkhaaaGreat
open Go.RowKit Go.Lib Go.Shelf
set_option linter.unusedVariables false
set_option linter.unusedSimpArgs false
attribute [local go_sem ↓] Go.wp_at_zero Go.wp_at_succ


set_option maxRecDepth 20000 in
set_option maxHeartbeats 1000000 in
theorem rGreater_any (a b c d : Int) (w : World) :
  Calls Tryz.prog 95 #[.agg #[.int .i64 a, .int .i64 b], .agg #[.int .i64 c, .int .i64 d]] w fun e w' => e = .returned (.agg #[.int .i64 (max a c), .int .i64 (max b d)]) ∧ Below w.heap.size w w' := by
 have m1 := fun tys ty w => jmax2 (P := Tryz.prog) tys ty .i64 a c w
 have m2 := fun tys ty w => jmax2 (P := Tryz.prog) tys ty .i64 b d w
 generalize max a c = M1 at *
 generalize max b d = M2 at *
 go_enter Tryz.func95, Tryz.ntmps95
 go_wp2_with fail
 refine bodyPost_ret (v := .agg #[.int .i64 M1, .int .i64 M2]) (by simp [results, Tryz.results95, go_sem]) rfl ⟨rfl, ?_⟩
 exact (((Below.refl _ _).alloc (Nat.le_refl _) _).alloc (by simp) _).alloc (by simp <;> omega) _

set_option maxHeartbeats 1000000 in
theorem act_blocks {w W : World} {b0 b1 b2 b3 b4 s0 s1 s2 s3 s4 s5 s6 s7 s8 s9 x0 x1 x2 x3 r0 r1 r2 r3 r4 r5 r6 r7 r8 r9 : Value} (hb : Below ((((w.alloc (Obj.cells #[b0, b1, b2, b3, b4] 27)).alloc (Obj.cells #[s0, s1, s2, s3, s4, s5, s6, s7, s8, s9] 52)).alloc (Obj.cells #[x0, x1, x2, x3] 50)).alloc (Obj.cells #[r0, r1, r2, r3, r4, r5, r6, r7, r8, r9] 52)).heap.size ((((w.alloc (Obj.cells #[b0, b1, b2, b3, b4] 27)).alloc (Obj.cells #[s0, s1, s2, s3, s4, s5, s6, s7, s8, s9] 52)).alloc (Obj.cells #[x0, x1, x2, x3] 50)).alloc (Obj.cells #[r0, r1, r2, r3, r4, r5, r6, r7, r8, r9] 52)) W) : Below w.heap.size w W ∧ w.heap.size + 1 < W.heap.size ∧ w.heap.size + 1 + 1 < W.heap.size ∧ w.heap.size + 1 + 1 + 1 < W.heap.size ∧ W.cell? ⟨w.heap.size + 1, 0, none⟩ = some s0 ∧ W.cell? ⟨w.heap.size + 1, 1, none⟩ = some s1 ∧ W.cell? ⟨w.heap.size + 1, 2, none⟩ = some s2 ∧ W.cell? ⟨w.heap.size + 1, 3, none⟩ = some s3 ∧ W.cell? ⟨w.heap.size + 1, 4, none⟩ = some s4 ∧ W.cell? ⟨w.heap.size + 1, 5, none⟩ = some s5 ∧ W.cell? ⟨w.heap.size + 1, 6, none⟩ = some s6 ∧ W.cell? ⟨w.heap.size + 1, 7, none⟩ = some s7 ∧ W.cell? ⟨w.heap.size + 1, 8, none⟩ = some s8 ∧ W.cell? ⟨w.heap.size + 1, 9, none⟩ = some s9 ∧ W.frozen? ⟨w.heap.size + 1, 0, none⟩ = false ∧ W.frozen? ⟨w.heap.size + 1, 1, none⟩ = false ∧ W.frozen? ⟨w.heap.size + 1, 2, none⟩ = false ∧ W.frozen? ⟨w.heap.size + 1, 3, none⟩ = false ∧ W.frozen? ⟨w.heap.size + 1, 4, none⟩ = false ∧ W.frozen? ⟨w.heap.size + 1, 5, none⟩ = false ∧ W.frozen? ⟨w.heap.size + 1, 6, none⟩ = false ∧ W.frozen? ⟨w.heap.size + 1, 7, none⟩ = false ∧ W.frozen? ⟨w.heap.size + 1, 8, none⟩ = false ∧ W.frozen? ⟨w.heap.size + 1, 9, none⟩ = false ∧ W.cell? ⟨w.heap.size + 1 + 1, 0, none⟩ = some x0 ∧ W.cell? ⟨w.heap.size + 1 + 1, 1, none⟩ = some x1 ∧ W.cell? ⟨w.heap.size + 1 + 1, 2, none⟩ = some x2 ∧ W.cell? ⟨w.heap.size + 1 + 1, 3, none⟩ = some x3 ∧ W.cell? ⟨w.heap.size + 1 + 1 + 1, 0, none⟩ = some r0 ∧ W.cell? ⟨w.heap.size + 1 + 1 + 1, 1, none⟩ = some r1 ∧ W.cell? ⟨w.heap.size + 1 + 1 + 1, 2, none⟩ = some r2 ∧ W.cell? ⟨w.heap.size + 1 + 1 + 1, 3, none⟩ = some r3 ∧ W.cell? ⟨w.heap.size + 1 + 1 + 1, 4, none⟩ = some r4 ∧ W.cell? ⟨w.heap.size + 1 + 1 + 1, 5, none⟩ = some r5 ∧ W.cell? ⟨w.heap.size + 1 + 1 + 1, 6, none⟩ = some r6 ∧ W.cell? ⟨w.heap.size + 1 + 1 + 1, 7, none⟩ = some r7 ∧ W.cell? ⟨w.heap.size + 1 + 1 + 1, 8, none⟩ = some r8 ∧ W.cell? ⟨w.heap.size + 1 + 1 + 1, 9, none⟩ = some r9 ∧ W.frozen? ⟨w.heap.size + 1 + 1 + 1, 0, none⟩ = false ∧ W.frozen? ⟨w.heap.size + 1 + 1 + 1, 1, none⟩ = false ∧ W.frozen? ⟨w.heap.size + 1 + 1 + 1, 2, none⟩ = false ∧ W.frozen? ⟨w.heap.size + 1 + 1 + 1, 3, none⟩ = false ∧ W.frozen? ⟨w.heap.size + 1 + 1 + 1, 4, none⟩ = false ∧ W.frozen? ⟨w.heap.size + 1 + 1 + 1, 5, none⟩ = false ∧ W.frozen? ⟨w.heap.size + 1 + 1 + 1, 6, none⟩ = false ∧ W.frozen? ⟨w.heap.size + 1 + 1 + 1, 7, none⟩ = false ∧ W.frozen? ⟨w.heap.size + 1 + 1 + 1, 8, none⟩ = false ∧ W.frozen? ⟨w.heap.size + 1 + 1 + 1, 9, none⟩ = false :=
 ⟨below4 hb, by have := hb.size; simp at this; omega, by have := hb.size; simp at this; omega, by have := hb.size; simp at this; omega, cell_next hb (b := w.heap.size + 1) (o := 0) (by simp <;> omega) (by simp [go_sem]), cell_next hb (b := w.heap.size + 1) (o := 1) (by simp <;> omega) (by simp [go_sem]), cell_next hb (b := w.heap.size + 1) (o := 2) (by simp <;> omega) (by simp [go_sem]), cell_next hb (b := w.heap.size + 1) (o := 3) (by simp <;> omega) (by simp [go_sem]), cell_next hb (b := w.heap.size + 1) (o := 4) (by simp <;> omega) (by simp [go_sem]), cell_next hb (b := w.heap.size + 1) (o := 5) (by simp <;> omega) (by simp [go_sem]), cell_next hb (b := w.heap.size + 1) (o := 6) (by simp <;> omega) (by simp [go_sem]), cell_next hb (b := w.heap.size + 1) (o := 7) (by simp <;> omega) (by simp [go_sem]), cell_next hb (b := w.heap.size + 1) (o := 8) (by simp <;> omega) (by simp [go_sem]), cell_next hb (b := w.heap.size + 1) (o := 9) (by simp <;> omega) (by simp [go_sem]), frozen_next hb (b := w.heap.size + 1) (o := 0) (by simp <;> omega) (by simp [go_sem]), frozen_next hb (b := w.heap.size + 1) (o := 1) (by simp <;> omega) (by simp [go_sem]), frozen_next hb (b := w.heap.size + 1) (o := 2) (by simp <;> omega) (by simp [go_sem]), frozen_next hb (b := w.heap.size + 1) (o := 3) (by simp <;> omega) (by simp [go_sem]), frozen_next hb (b := w.heap.size + 1) (o := 4) (by simp <;> omega) (by simp [go_sem]), frozen_next hb (b := w.heap.size + 1) (o := 5) (by simp <;> omega) (by simp [go_sem]), frozen_next hb (b := w.heap.size + 1) (o := 6) (by simp <;> omega) (by simp [go_sem]), frozen_next hb (b := w.heap.size + 1) (o := 7) (by simp <;> omega) (by simp [go_sem]), frozen_next hb (b := w.heap.size + 1) (o := 8) (by simp <;> omega) (by simp [go_sem]), frozen_next hb (b := w.heap.size + 1) (o := 9) (by simp <;> omega) (by simp [go_sem]), cell_next hb (b := w.heap.size + 1 + 1) (o := 0) (by simp <;> omega) (by simp [go_sem]), cell_next hb (b := w.heap.size + 1 + 1) (o := 1) (by simp <;> omega) (by simp [go_sem]), cell_next hb (b := w.heap.size + 1 + 1) (o := 2) (by simp <;> omega) (by simp [go_sem]), cell_next hb (b := w.heap.size + 1 + 1) (o := 3) (by simp <;> omega) (by simp [go_sem]), cell_next hb (b := w.heap.size + 1 + 1 + 1) (o := 0) (by simp <;> omega) (by simp [go_sem]), cell_next hb (b := w.heap.size + 1 + 1 + 1) (o := 1) (by simp <;> omega) (by simp [go_sem]), cell_next hb (b := w.heap.size + 1 + 1 + 1) (o := 2) (by simp <;> omega) (by simp [go_sem]), cell_next hb (b := w.heap.size + 1 + 1 + 1) (o := 3) (by simp <;> omega) (by simp [go_sem]), cell_next hb (b := w.heap.size + 1 + 1 + 1) (o := 4) (by simp <;> omega) (by simp [go_sem]), cell_next hb (b := w.heap.size + 1 + 1 + 1) (o := 5) (by simp <;> omega) (by simp [go_sem]), cell_next hb (b := w.heap.size + 1 + 1 + 1) (o := 6) (by simp <;> omega) (by simp [go_sem]), cell_next hb (b := w.heap.size + 1 + 1 + 1) (o := 7) (by simp <;> omega) (by simp [go_sem]), cell_next hb (b := w.heap.size + 1 + 1 + 1) (o := 8) (by simp <;> omega) (by simp [go_sem]), cell_next hb (b := w.heap.size + 1 + 1 + 1) (o := 9) (by simp <;> omega) (by simp [go_sem]), frozen_next hb (b := w.heap.size + 1 + 1 + 1) (o := 0) (by simp <;> omega) (by simp [go_sem]), frozen_next hb (b := w.heap.size + 1 + 1 + 1) (o := 1) (by simp <;> omega) (by simp [go_sem]), frozen_next hb (b := w.heap.size + 1 + 1 + 1) (o := 2) (by simp <;> omega) (by simp [go_sem]), frozen_next hb (b := w.heap.size + 1 + 1 + 1) (o := 3) (by simp <;> omega) (by simp [go_sem]), frozen_next hb (b := w.heap.size + 1 + 1 + 1) (o := 4) (by simp <;> omega) (by simp [go_sem]), frozen_next hb (b := w.heap.size + 1 + 1 + 1) (o := 5) (by simp <;> omega) (by simp [go_sem]), frozen_next hb (b := w.heap.size + 1 + 1 + 1) (o := 6) (by simp <;> omega) (by simp [go_sem]), frozen_next hb (b := w.heap.size + 1 + 1 + 1) (o := 7) (by simp <;> omega) (by simp [go_sem]), frozen_next hb (b := w.heap.size + 1 + 1 + 1) (o := 8) (by simp <;> omega) (by simp [go_sem]), frozen_next hb (b := w.heap.size + 1 + 1 + 1) (o := 9) (by simp <;> omega) (by simp [go_sem])⟩

set_option maxRecDepth 20000 in
set_option maxHeartbeats 1000000 in
theorem rAct_no (v1 v2 v3 : Value) (bl bh dl dh hl hh sl sh tl th se k lo hi m : Int) (bg : Bool) (w : World) (h1 : k ≠ 1) (h2 : k ≠ 2) (h3 : k ≠ 3) (h4 : k ≠ 4) :
  Calls Tryz.prog 61 #[.agg #[v1, v2, .int .i64 bl, .int .i64 bh, v3], .agg #[.int .i64 dl, .int .i64 dh, .int .i64 hl, .int .i64 hh, .int .i64 sl, .int .i64 sh, .int .i64 tl, .int .i64 th, .bool bg, .int .i64 se], .agg #[.int .i64 k, .int .i64 lo, .int .i64 hi, .int .i64 m]] w fun e w' => e = .returned (.tuple #[.agg #[.int .i64 dl, .int .i64 dh, .int .i64 hl, .int .i64 hh, .int .i64 sl, .int .i64 sh, .int .i64 tl, .int .i64 th, .bool bg, .int .i64 se], .int .i64 2]) ∧ Below w.heap.size w w' := by
 have d11 : decide (k = 1) = false := decide_eq_false (by omega)
 have d12 : (k == 1) = false := by simp; omega
 have d13 : (k != 1) = true := by simp; omega
 have d21 : decide (k = 2) = false := decide_eq_false (by omega)
 have d22 : (k == 2) = false := by simp; omega
 have d23 : (k != 2) = true := by simp; omega
 have d31 : decide (k = 3) = false := decide_eq_false (by omega)
 have d32 : (k == 3) = false := by simp; omega
 have d33 : (k != 3) = true := by simp; omega
 have d41 : decide (k = 4) = false := decide_eq_false (by omega)
 have d42 : (k == 4) = false := by simp; omega
 have d43 : (k != 4) = true := by simp; omega
 go_enter Tryz.func61, Tryz.ntmps61
 go_wp2_with fail
 refine bodyPost_ret (v := .tuple #[.agg #[.int .i64 dl, .int .i64 dh, .int .i64 hl, .int .i64 hh, .int .i64 sl, .int .i64 sh, .int .i64 tl, .int .i64 th, .bool bg, .int .i64 se], .int .i64 2]) (by simp [results, Tryz.results61, go_sem]) rfl ⟨rfl, ?_⟩
 exact ((((Below.refl _ _).alloc (Nat.le_refl _) _).alloc (by simp) _).alloc (by simp <;> omega) _ |>.alloc (by simp <;> omega) _)

set_option maxRecDepth 20000 in
set_option maxHeartbeats 1000000 in
theorem rAct_1m (v1 v2 v3 : Value) (bl bh dl dh hl hh sl sh tl th se lo hi m : Int) (bg : Bool) (w : World) (hm : m ≠ 0) :
  Calls Tryz.prog 61 #[.agg #[v1, v2, .int .i64 bl, .int .i64 bh, v3], .agg #[.int .i64 dl, .int .i64 dh, .int .i64 hl, .int .i64 hh, .int .i64 sl, .int .i64 sh, .int .i64 tl, .int .i64 th, .bool bg, .int .i64 se], .agg #[.int .i64 1, .int .i64 lo, .int .i64 hi, .int .i64 m]] w fun e w' => e = .returned (.tuple #[.agg #[.int .i64 dl, .int .i64 dh, .int .i64 hl, .int .i64 hh, .int .i64 sl, .int .i64 sh, .int .i64 tl, .int .i64 th, .bool bg, .int .i64 se], .int .i64 2]) ∧ Below w.heap.size w w' := by
 have d1 : decide (m = 0) = false := decide_eq_false (by omega)
 have d2 : (m == 0) = false := by simp; omega
 have d3 : (m != 0) = true := by simp; omega
 go_enter Tryz.func61, Tryz.ntmps61
 go_wp2_with fail
 refine bodyPost_ret (v := .tuple #[.agg #[.int .i64 dl, .int .i64 dh, .int .i64 hl, .int .i64 hh, .int .i64 sl, .int .i64 sh, .int .i64 tl, .int .i64 th, .bool bg, .int .i64 se], .int .i64 2]) (by simp [results, Tryz.results61, go_sem]) rfl ⟨rfl, ?_⟩
 exact ((((Below.refl _ _).alloc (Nat.le_refl _) _).alloc (by simp) _).alloc (by simp <;> omega) _ |>.alloc (by simp <;> omega) _)

set_option maxRecDepth 20000 in
set_option maxHeartbeats 1000000 in
theorem rAct_2m (v1 v2 v3 : Value) (bl bh dl dh hl hh sl sh tl th se lo hi m : Int) (bg : Bool) (w : World) (hm : m ≠ 0) :
  Calls Tryz.prog 61 #[.agg #[v1, v2, .int .i64 bl, .int .i64 bh, v3], .agg #[.int .i64 dl, .int .i64 dh, .int .i64 hl, .int .i64 hh, .int .i64 sl, .int .i64 sh, .int .i64 tl, .int .i64 th, .bool bg, .int .i64 se], .agg #[.int .i64 2, .int .i64 lo, .int .i64 hi, .int .i64 m]] w fun e w' => e = .returned (.tuple #[.agg #[.int .i64 dl, .int .i64 dh, .int .i64 hl, .int .i64 hh, .int .i64 sl, .int .i64 sh, .int .i64 tl, .int .i64 th, .bool bg, .int .i64 se], .int .i64 2]) ∧ Below w.heap.size w w' := by
 have d1 : decide (m = 0) = false := decide_eq_false (by omega)
 have d2 : (m == 0) = false := by simp; omega
 have d3 : (m != 0) = true := by simp; omega
 go_enter Tryz.func61, Tryz.ntmps61
 go_wp2_with fail
 refine bodyPost_ret (v := .tuple #[.agg #[.int .i64 dl, .int .i64 dh, .int .i64 hl, .int .i64 hh, .int .i64 sl, .int .i64 sh, .int .i64 tl, .int .i64 th, .bool bg, .int .i64 se], .int .i64 2]) (by simp [results, Tryz.results61, go_sem]) rfl ⟨rfl, ?_⟩
 exact ((((Below.refl _ _).alloc (Nat.le_refl _) _).alloc (by simp) _).alloc (by simp <;> omega) _ |>.alloc (by simp <;> omega) _)

set_option maxRecDepth 20000 in
set_option maxHeartbeats 1000000 in
theorem rAct_3m (v1 v2 v3 : Value) (bl bh dl dh hl hh sl sh tl th se lo hi m : Int) (bg : Bool) (w : World) (hm : m ≠ 0) :
  Calls Tryz.prog 61 #[.agg #[v1, v2, .int .i64 bl, .int .i64 bh, v3], .agg #[.int .i64 dl, .int .i64 dh, .int .i64 hl, .int .i64 hh, .int .i64 sl, .int .i64 sh, .int .i64 tl, .int .i64 th, .bool bg, .int .i64 se], .agg #[.int .i64 3, .int .i64 lo, .int .i64 hi, .int .i64 m]] w fun e w' => e = .returned (.tuple #[.agg #[.int .i64 dl, .int .i64 dh, .int .i64 hl, .int .i64 hh, .int .i64 sl, .int .i64 sh, .int .i64 tl, .int .i64 th, .bool bg, .int .i64 se], .int .i64 2]) ∧ Below w.heap.size w w' := by
 have d1 : decide (m = 0) = false := decide_eq_false (by omega)
 have d2 : (m == 0) = false := by simp; omega
 have d3 : (m != 0) = true := by simp; omega
 go_enter Tryz.func61, Tryz.ntmps61
 go_wp2_with fail
 refine bodyPost_ret (v := .tuple #[.agg #[.int .i64 dl, .int .i64 dh, .int .i64 hl, .int .i64 hh, .int .i64 sl, .int .i64 sh, .int .i64 tl, .int .i64 th, .bool bg, .int .i64 se], .int .i64 2]) (by simp [results, Tryz.results61, go_sem]) rfl ⟨rfl, ?_⟩
 exact ((((Below.refl _ _).alloc (Nat.le_refl _) _).alloc (by simp) _).alloc (by simp <;> omega) _ |>.alloc (by simp <;> omega) _)

set_option maxRecDepth 20000 in
set_option maxHeartbeats 1000000 in
theorem rAct_1b (v1 v2 v3 : Value) (bl bh dl dh hl hh sl sh tl th se lo hi : Int) (w : World)  :
  Calls Tryz.prog 61 #[.agg #[v1, v2, .int .i64 bl, .int .i64 bh, v3], .agg #[.int .i64 dl, .int .i64 dh, .int .i64 hl, .int .i64 hh, .int .i64 sl, .int .i64 sh, .int .i64 tl, .int .i64 th, .bool true, .int .i64 se], .agg #[.int .i64 1, .int .i64 lo, .int .i64 hi, .int .i64 0]] w fun e w' => e = .returned (.tuple #[.agg #[.int .i64 dl, .int .i64 dh, .int .i64 hl, .int .i64 hh, .int .i64 sl, .int .i64 sh, .int .i64 tl, .int .i64 th, .bool true, .int .i64 se], .int .i64 9]) ∧ Below w.heap.size w w' := by
 go_enter Tryz.func61, Tryz.ntmps61
 go_wp2_with fail
 refine bodyPost_ret (v := .tuple #[.agg #[.int .i64 dl, .int .i64 dh, .int .i64 hl, .int .i64 hh, .int .i64 sl, .int .i64 sh, .int .i64 tl, .int .i64 th, .bool true, .int .i64 se], .int .i64 9]) (by simp [results, Tryz.results61, go_sem]) rfl ⟨rfl, ?_⟩
 exact ((((Below.refl _ _).alloc (Nat.le_refl _) _).alloc (by simp) _).alloc (by simp <;> omega) _ |>.alloc (by simp <;> omega) _)

set_option maxRecDepth 20000 in
set_option maxHeartbeats 1000000 in
theorem rAct_2r (v1 v2 v3 : Value) (bl bh dl dh hl hh sl sh tl th se lo hi : Int) (bg : Bool) (w : World) (hz : rgB (-2000) 2000 lo hi = false) :
  Calls Tryz.prog 61 #[.agg #[v1, v2, .int .i64 bl, .int .i64 bh, v3], .agg #[.int .i64 dl, .int .i64 dh, .int .i64 hl, .int .i64 hh, .int .i64 sl, .int .i64 sh, .int .i64 tl, .int .i64 th, .bool bg, .int .i64 se], .agg #[.int .i64 2, .int .i64 lo, .int .i64 hi, .int .i64 0]] w fun e w' => e = .returned (.tuple #[.agg #[.int .i64 dl, .int .i64 dh, .int .i64 hl, .int .i64 hh, .int .i64 sl, .int .i64 sh, .int .i64 tl, .int .i64 th, .bool bg, .int .i64 se], .int .i64 3]) ∧ Below w.heap.size w w' := by
 have C1 := Lib.hid (rSpread_any (-2000) 2000 lo hi)
 rw [hz] at C1
 go_enter Tryz.func61, Tryz.ntmps61
 go_wp2_with fail
 refine (C1.out _).mono ?_
 rintro e W1 ⟨rfl, hb⟩
 obtain ⟨hB, ns, nx, nr, s0, s1, s2, s3, s4, s5, s6, s7, s8, s9, fs0, fs1, fs2, fs3, fs4, fs5, fs6, fs7, fs8, fs9, x0, x1, x2, x3, r0, r1, r2, r3, r4, r5, r6, r7, r8, r9, fr0, fr1, fr2, fr3, fr4, fr5, fr6, fr7, fr8, fr9⟩ := act_blocks hb
 clear hb
 go_wp2_with fail
 refine bodyPost_ret (v := .tuple #[.agg #[.int .i64 dl, .int .i64 dh, .int .i64 hl, .int .i64 hh, .int .i64 sl, .int .i64 sh, .int .i64 tl, .int .i64 th, .bool bg, .int .i64 se], .int .i64 3]) (by simp [results, Tryz.results61, go_sem, s0, s1, s2, s3, s4, s5, s6, s7, s8, s9, fs0, fs1, fs2, fs3, fs4, fs5, fs6, fs7, fs8, fs9, r0, r1, r2, r3, r4, r5, r6, r7, r8, r9, fr0, fr1, fr2, fr3, fr4, fr5, fr6, fr7, fr8, fr9]) rfl ⟨rfl, ?_⟩
 exact ((((((((((hB.setCell (p := ⟨w.heap.size + 1 + 1 + 1, 0, none⟩) (by simp <;> omega) _).setCell (p := ⟨w.heap.size + 1 + 1 + 1, 1, none⟩) (by simp <;> omega) _).setCell (p := ⟨w.heap.size + 1 + 1 + 1, 2, none⟩) (by simp <;> omega) _).setCell (p := ⟨w.heap.size + 1 + 1 + 1, 3, none⟩) (by simp <;> omega) _).setCell (p := ⟨w.heap.size + 1 + 1 + 1, 4, none⟩) (by simp <;> omega) _).setCell (p := ⟨w.heap.size + 1 + 1 + 1, 5, none⟩) (by simp <;> omega) _).setCell (p := ⟨w.heap.size + 1 + 1 + 1, 6, none⟩) (by simp <;> omega) _).setCell (p := ⟨w.heap.size + 1 + 1 + 1, 7, none⟩) (by simp <;> omega) _).setCell (p := ⟨w.heap.size + 1 + 1 + 1, 8, none⟩) (by simp <;> omega) _).setCell (p := ⟨w.heap.size + 1 + 1 + 1, 9, none⟩) (by simp <;> omega) _)

set_option maxRecDepth 20000 in
set_option maxHeartbeats 1000000 in
theorem rAct_2l (v1 v2 v3 : Value) (bl bh dl dh hl hh sl sh tl th se lo hi : Int) (bg : Bool) (w : World) (hz : rgB (-2000) 2000 lo hi = true) (h1 : hl < lo) :
  Calls Tryz.prog 61 #[.agg #[v1, v2, .int .i64 bl, .int .i64 bh, v3], .agg #[.int .i64 dl, .int .i64 dh, .int .i64 hl, .int .i64 hh, .int .i64 sl, .int .i64 sh, .int .i64 tl, .int .i64 th, .bool bg, .int .i64 se], .agg #[.int .i64 2, .int .i64 lo, .int .i64 hi, .int .i64 0]] w fun e w' => e = .returned (.tuple #[.agg #[.int .i64 dl, .int .i64 dh, .int .i64 hl, .int .i64 hh, .int .i64 sl, .int .i64 sh, .int .i64 tl, .int .i64 th, .bool bg, .int .i64 se], .int .i64 3]) ∧ Below w.heap.size w w' := by
 have C1 := Lib.hid (rSpread_any (-2000) 2000 lo hi)
 rw [hz] at C1
 have d : decide (hl < lo) = true := decide_eq_true (by omega)
 go_enter Tryz.func61, Tryz.ntmps61
 go_wp2_with fail
 refine (C1.out _).mono ?_
 rintro e W1 ⟨rfl, hb⟩
 obtain ⟨hB, ns, nx, nr, s0, s1, s2, s3, s4, s5, s6, s7, s8, s9, fs0, fs1, fs2, fs3, fs4, fs5, fs6, fs7, fs8, fs9, x0, x1, x2, x3, r0, r1, r2, r3, r4, r5, r6, r7, r8, r9, fr0, fr1, fr2, fr3, fr4, fr5, fr6, fr7, fr8, fr9⟩ := act_blocks hb
 clear hb
 go_wp2_with fail
 refine bodyPost_ret (v := .tuple #[.agg #[.int .i64 dl, .int .i64 dh, .int .i64 hl, .int .i64 hh, .int .i64 sl, .int .i64 sh, .int .i64 tl, .int .i64 th, .bool bg, .int .i64 se], .int .i64 3]) (by simp [results, Tryz.results61, go_sem, s0, s1, s2, s3, s4, s5, s6, s7, s8, s9, fs0, fs1, fs2, fs3, fs4, fs5, fs6, fs7, fs8, fs9, r0, r1, r2, r3, r4, r5, r6, r7, r8, r9, fr0, fr1, fr2, fr3, fr4, fr5, fr6, fr7, fr8, fr9]) rfl ⟨rfl, ?_⟩
 exact ((((((((((hB.setCell (p := ⟨w.heap.size + 1 + 1 + 1, 0, none⟩) (by simp <;> omega) _).setCell (p := ⟨w.heap.size + 1 + 1 + 1, 1, none⟩) (by simp <;> omega) _).setCell (p := ⟨w.heap.size + 1 + 1 + 1, 2, none⟩) (by simp <;> omega) _).setCell (p := ⟨w.heap.size + 1 + 1 + 1, 3, none⟩) (by simp <;> omega) _).setCell (p := ⟨w.heap.size + 1 + 1 + 1, 4, none⟩) (by simp <;> omega) _).setCell (p := ⟨w.heap.size + 1 + 1 + 1, 5, none⟩) (by simp <;> omega) _).setCell (p := ⟨w.heap.size + 1 + 1 + 1, 6, none⟩) (by simp <;> omega) _).setCell (p := ⟨w.heap.size + 1 + 1 + 1, 7, none⟩) (by simp <;> omega) _).setCell (p := ⟨w.heap.size + 1 + 1 + 1, 8, none⟩) (by simp <;> omega) _).setCell (p := ⟨w.heap.size + 1 + 1 + 1, 9, none⟩) (by simp <;> omega) _)

set_option maxRecDepth 20000 in
set_option maxHeartbeats 1000000 in
theorem rAct_2h (v1 v2 v3 : Value) (bl bh dl dh hl hh sl sh tl th se lo hi : Int) (bg : Bool) (w : World) (hz : rgB (-2000) 2000 lo hi = true) (h1 : lo ≤ hl) (h2 : hh < hi) :
  Calls Tryz.prog 61 #[.agg #[v1, v2, .int .i64 bl, .int .i64 bh, v3], .agg #[.int .i64 dl, .int .i64 dh, .int .i64 hl, .int .i64 hh, .int .i64 sl, .int .i64 sh, .int .i64 tl, .int .i64 th, .bool bg, .int .i64 se], .agg #[.int .i64 2, .int .i64 lo, .int .i64 hi, .int .i64 0]] w fun e w' => e = .returned (.tuple #[.agg #[.int .i64 dl, .int .i64 dh, .int .i64 hl, .int .i64 hh, .int .i64 sl, .int .i64 sh, .int .i64 tl, .int .i64 th, .bool bg, .int .i64 se], .int .i64 3]) ∧ Below w.heap.size w w' := by
 have C1 := Lib.hid (rSpread_any (-2000) 2000 lo hi)
 rw [hz] at C1
 have d : decide (hl < lo) = false := decide_eq_false (by omega)
 have d2 : decide (hh < hi) = true := decide_eq_true (by omega)
 go_enter Tryz.func61, Tryz.ntmps61
 go_wp2_with fail
 refine (C1.out _).mono ?_
 rintro e W1 ⟨rfl, hb⟩
 obtain ⟨hB, ns, nx, nr, s0, s1, s2, s3, s4, s5, s6, s7, s8, s9, fs0, fs1, fs2, fs3, fs4, fs5, fs6, fs7, fs8, fs9, x0, x1, x2, x3, r0, r1, r2, r3, r4, r5, r6, r7, r8, r9, fr0, fr1, fr2, fr3, fr4, fr5, fr6, fr7, fr8, fr9⟩ := act_blocks hb
 clear hb
 go_wp2_with fail
 refine bodyPost_ret (v := .tuple #[.agg #[.int .i64 dl, .int .i64 dh, .int .i64 hl, .int .i64 hh, .int .i64 sl, .int .i64 sh, .int .i64 tl, .int .i64 th, .bool bg, .int .i64 se], .int .i64 3]) (by simp [results, Tryz.results61, go_sem, s0, s1, s2, s3, s4, s5, s6, s7, s8, s9, fs0, fs1, fs2, fs3, fs4, fs5, fs6, fs7, fs8, fs9, r0, r1, r2, r3, r4, r5, r6, r7, r8, r9, fr0, fr1, fr2, fr3, fr4, fr5, fr6, fr7, fr8, fr9]) rfl ⟨rfl, ?_⟩
 exact ((((((((((hB.setCell (p := ⟨w.heap.size + 1 + 1 + 1, 0, none⟩) (by simp <;> omega) _).setCell (p := ⟨w.heap.size + 1 + 1 + 1, 1, none⟩) (by simp <;> omega) _).setCell (p := ⟨w.heap.size + 1 + 1 + 1, 2, none⟩) (by simp <;> omega) _).setCell (p := ⟨w.heap.size + 1 + 1 + 1, 3, none⟩) (by simp <;> omega) _).setCell (p := ⟨w.heap.size + 1 + 1 + 1, 4, none⟩) (by simp <;> omega) _).setCell (p := ⟨w.heap.size + 1 + 1 + 1, 5, none⟩) (by simp <;> omega) _).setCell (p := ⟨w.heap.size + 1 + 1 + 1, 6, none⟩) (by simp <;> omega) _).setCell (p := ⟨w.heap.size + 1 + 1 + 1, 7, none⟩) (by simp <;> omega) _).setCell (p := ⟨w.heap.size + 1 + 1 + 1, 8, none⟩) (by simp <;> omega) _).setCell (p := ⟨w.heap.size + 1 + 1 + 1, 9, none⟩) (by simp <;> omega) _)

set_option maxRecDepth 20000 in
set_option maxHeartbeats 1000000 in
theorem rAct_2o (v1 v2 v3 : Value) (bl bh dl dh hl hh sl sh tl th se lo hi : Int) (bg : Bool) (w : World) (hz : rgB (-2000) 2000 lo hi = true) (h1 : lo ≤ hl) (h2 : hi ≤ hh) :
  Calls Tryz.prog 61 #[.agg #[v1, v2, .int .i64 bl, .int .i64 bh, v3], .agg #[.int .i64 dl, .int .i64 dh, .int .i64 hl, .int .i64 hh, .int .i64 sl, .int .i64 sh, .int .i64 tl, .int .i64 th, .bool bg, .int .i64 se], .agg #[.int .i64 2, .int .i64 lo, .int .i64 hi, .int .i64 0]] w fun e w' => e = .returned (.tuple #[.agg #[.int .i64 dl, .int .i64 dh, .int .i64 lo, .int .i64 hi, .int .i64 sl, .int .i64 sh, .int .i64 tl, .int .i64 th, .bool bg, .int .i64 se], .int .i64 0]) ∧ Below w.heap.size w w' := by
 have C1 := Lib.hid (rSpread_any (-2000) 2000 lo hi)
 rw [hz] at C1
 have d : decide (hl < lo) = false := decide_eq_false (by omega)
 have d2 : decide (hh < hi) = false := decide_eq_false (by omega)
 go_enter Tryz.func61, Tryz.ntmps61
 go_wp2_with fail
 refine (C1.out _).mono ?_
 rintro e W1 ⟨rfl, hb⟩
 obtain ⟨hB, ns, nx, nr, s0, s1, s2, s3, s4, s5, s6, s7, s8, s9, fs0, fs1, fs2, fs3, fs4, fs5, fs6, fs7, fs8, fs9, x0, x1, x2, x3, r0, r1, r2, r3, r4, r5, r6, r7, r8, r9, fr0, fr1, fr2, fr3, fr4, fr5, fr6, fr7, fr8, fr9⟩ := act_blocks hb
 clear hb
 go_wp2_with fail
 refine bodyPost_ret (v := .tuple #[.agg #[.int .i64 dl, .int .i64 dh, .int .i64 lo, .int .i64 hi, .int .i64 sl, .int .i64 sh, .int .i64 tl, .int .i64 th, .bool bg, .int .i64 se], .int .i64 0]) (by simp [results, Tryz.results61, go_sem, s0, s1, s2, s3, s4, s5, s6, s7, s8, s9, fs0, fs1, fs2, fs3, fs4, fs5, fs6, fs7, fs8, fs9, r0, r1, r2, r3, r4, r5, r6, r7, r8, r9, fr0, fr1, fr2, fr3, fr4, fr5, fr6, fr7, fr8, fr9]) rfl ⟨rfl, ?_⟩
 exact ((((((((((((hB.setCell (p := ⟨w.heap.size + 1, 2, none⟩) (by simp <;> omega) _).setCell (p := ⟨w.heap.size + 1, 3, none⟩) (by simp <;> omega) _).setCell (p := ⟨w.heap.size + 1 + 1 + 1, 0, none⟩) (by simp <;> omega) _).setCell (p := ⟨w.heap.size + 1 + 1 + 1, 1, none⟩) (by simp <;> omega) _).setCell (p := ⟨w.heap.size + 1 + 1 + 1, 2, none⟩) (by simp <;> omega) _).setCell (p := ⟨w.heap.size + 1 + 1 + 1, 3, none⟩) (by simp <;> omega) _).setCell (p := ⟨w.heap.size + 1 + 1 + 1, 4, none⟩) (by simp <;> omega) _).setCell (p := ⟨w.heap.size + 1 + 1 + 1, 5, none⟩) (by simp <;> omega) _).setCell (p := ⟨w.heap.size + 1 + 1 + 1, 6, none⟩) (by simp <;> omega) _).setCell (p := ⟨w.heap.size + 1 + 1 + 1, 7, none⟩) (by simp <;> omega) _).setCell (p := ⟨w.heap.size + 1 + 1 + 1, 8, none⟩) (by simp <;> omega) _).setCell (p := ⟨w.heap.size + 1 + 1 + 1, 9, none⟩) (by simp <;> omega) _)

set_option maxRecDepth 20000 in
set_option maxHeartbeats 1000000 in
theorem rAct_3r (v1 v2 v3 : Value) (bl bh dl dh hl hh sl sh tl th se lo hi : Int) (bg : Bool) (w : World) (hz : rgB 0 1000 lo hi = false) :
  Calls Tryz.prog 61 #[.agg #[v1, v2, .int .i64 bl, .int .i64 bh, v3], .agg #[.int .i64 dl, .int .i64 dh, .int .i64 hl, .int .i64 hh, .int .i64 sl, .int .i64 sh, .int .i64 tl, .int .i64 th, .bool bg, .int .i64 se], .agg #[.int .i64 3, .int .i64 lo, .int .i64 hi, .int .i64 0]] w fun e w' => e = .returned (.tuple #[.agg #[.int .i64 dl, .int .i64 dh, .int .i64 hl, .int .i64 hh, .int .i64 sl, .int .i64 sh, .int .i64 tl, .int .i64 th, .bool bg, .int .i64 se], .int .i64 3]) ∧ Below w.heap.size w w' := by
 have C2 := Lib.hid (rSpread_any 0 1000 lo hi)
 rw [hz] at C2
 go_enter Tryz.func61, Tryz.ntmps61
 go_wp2_with fail
 refine (C2.out _).mono ?_
 rintro e W1 ⟨rfl, hb⟩
 obtain ⟨hB, ns, nx, nr, s0, s1, s2, s3, s4, s5, s6, s7, s8, s9, fs0, fs1, fs2, fs3, fs4, fs5, fs6, fs7, fs8, fs9, x0, x1, x2, x3, r0, r1, r2, r3, r4, r5, r6, r7, r8, r9, fr0, fr1, fr2, fr3, fr4, fr5, fr6, fr7, fr8, fr9⟩ := act_blocks hb
 clear hb
 go_wp2_with fail
 refine bodyPost_ret (v := .tuple #[.agg #[.int .i64 dl, .int .i64 dh, .int .i64 hl, .int .i64 hh, .int .i64 sl, .int .i64 sh, .int .i64 tl, .int .i64 th, .bool bg, .int .i64 se], .int .i64 3]) (by simp [results, Tryz.results61, go_sem, s0, s1, s2, s3, s4, s5, s6, s7, s8, s9, fs0, fs1, fs2, fs3, fs4, fs5, fs6, fs7, fs8, fs9, r0, r1, r2, r3, r4, r5, r6, r7, r8, r9, fr0, fr1, fr2, fr3, fr4, fr5, fr6, fr7, fr8, fr9]) rfl ⟨rfl, ?_⟩
 exact ((((((((((hB.setCell (p := ⟨w.heap.size + 1 + 1 + 1, 0, none⟩) (by simp <;> omega) _).setCell (p := ⟨w.heap.size + 1 + 1 + 1, 1, none⟩) (by simp <;> omega) _).setCell (p := ⟨w.heap.size + 1 + 1 + 1, 2, none⟩) (by simp <;> omega) _).setCell (p := ⟨w.heap.size + 1 + 1 + 1, 3, none⟩) (by simp <;> omega) _).setCell (p := ⟨w.heap.size + 1 + 1 + 1, 4, none⟩) (by simp <;> omega) _).setCell (p := ⟨w.heap.size + 1 + 1 + 1, 5, none⟩) (by simp <;> omega) _).setCell (p := ⟨w.heap.size + 1 + 1 + 1, 6, none⟩) (by simp <;> omega) _).setCell (p := ⟨w.heap.size + 1 + 1 + 1, 7, none⟩) (by simp <;> omega) _).setCell (p := ⟨w.heap.size + 1 + 1 + 1, 8, none⟩) (by simp <;> omega) _).setCell (p := ⟨w.heap.size + 1 + 1 + 1, 9, none⟩) (by simp <;> omega) _)

set_option maxRecDepth 20000 in
set_option maxHeartbeats 1000000 in
theorem rAct_3f (v1 v2 v3 : Value) (bl bh dl dh hl hh sl sh tl th se lo hi : Int) (bg : Bool) (w : World) (hz : rgB 0 1000 lo hi = true) (ht : 0 ≤ tl ∧ tl ≤ th ∧ th ≤ 1000) (h1 : 1000 < th + hi) :
  Calls Tryz.prog 61 #[.agg #[v1, v2, .int .i64 bl, .int .i64 bh, v3], .agg #[.int .i64 dl, .int .i64 dh, .int .i64 hl, .int .i64 hh, .int .i64 sl, .int .i64 sh, .int .i64 tl, .int .i64 th, .bool bg, .int .i64 se], .agg #[.int .i64 3, .int .i64 lo, .int .i64 hi, .int .i64 0]] w fun e w' => e = .returned (.tuple #[.agg #[.int .i64 dl, .int .i64 dh, .int .i64 hl, .int .i64 hh, .int .i64 sl, .int .i64 sh, .int .i64 tl, .int .i64 th, .bool bg, .int .i64 se], .int .i64 10]) ∧ Below w.heap.size w w' := by
 have y1 : IntKind.i64.wrap (th + hi) = th + hi := IntWalk.i64_in _ (by have := rgB_of hz; omega)
 have y2 : IntKind.i64.wrap (tl + lo) = tl + lo := IntWalk.i64_in _ (by have := rgB_of hz; omega)
 have C2 := Lib.hid (rSpread_any 0 1000 lo hi)
 rw [hz] at C2
 have d : decide (1000 < th + hi) = true := decide_eq_true (by omega)
 go_enter Tryz.func61, Tryz.ntmps61
 go_wp2_with fail
 refine (C2.out _).mono ?_
 rintro e W1 ⟨rfl, hb⟩
 obtain ⟨hB, ns, nx, nr, s0, s1, s2, s3, s4, s5, s6, s7, s8, s9, fs0, fs1, fs2, fs3, fs4, fs5, fs6, fs7, fs8, fs9, x0, x1, x2, x3, r0, r1, r2, r3, r4, r5, r6, r7, r8, r9, fr0, fr1, fr2, fr3, fr4, fr5, fr6, fr7, fr8, fr9⟩ := act_blocks hb
 clear hb
 go_wp2_with fail
 refine bodyPost_ret (v := .tuple #[.agg #[.int .i64 dl, .int .i64 dh, .int .i64 hl, .int .i64 hh, .int .i64 sl, .int .i64 sh, .int .i64 tl, .int .i64 th, .bool bg, .int .i64 se], .int .i64 10]) (by simp [results, Tryz.results61, go_sem, s0, s1, s2, s3, s4, s5, s6, s7, s8, s9, fs0, fs1, fs2, fs3, fs4, fs5, fs6, fs7, fs8, fs9, r0, r1, r2, r3, r4, r5, r6, r7, r8, r9, fr0, fr1, fr2, fr3, fr4, fr5, fr6, fr7, fr8, fr9]) rfl ⟨rfl, ?_⟩
 exact ((((((((((hB.setCell (p := ⟨w.heap.size + 1 + 1 + 1, 0, none⟩) (by simp <;> omega) _).setCell (p := ⟨w.heap.size + 1 + 1 + 1, 1, none⟩) (by simp <;> omega) _).setCell (p := ⟨w.heap.size + 1 + 1 + 1, 2, none⟩) (by simp <;> omega) _).setCell (p := ⟨w.heap.size + 1 + 1 + 1, 3, none⟩) (by simp <;> omega) _).setCell (p := ⟨w.heap.size + 1 + 1 + 1, 4, none⟩) (by simp <;> omega) _).setCell (p := ⟨w.heap.size + 1 + 1 + 1, 5, none⟩) (by simp <;> omega) _).setCell (p := ⟨w.heap.size + 1 + 1 + 1, 6, none⟩) (by simp <;> omega) _).setCell (p := ⟨w.heap.size + 1 + 1 + 1, 7, none⟩) (by simp <;> omega) _).setCell (p := ⟨w.heap.size + 1 + 1 + 1, 8, none⟩) (by simp <;> omega) _).setCell (p := ⟨w.heap.size + 1 + 1 + 1, 9, none⟩) (by simp <;> omega) _)

set_option maxRecDepth 20000 in
set_option maxHeartbeats 1000000 in
theorem rAct_3n (v1 v2 v3 : Value) (bl bh dl dh hl hh sl sh tl th se lo hi : Int) (w : World) (hz : rgB 0 1000 lo hi = true) (ht : 0 ≤ tl ∧ tl ≤ th ∧ th ≤ 1000) (h1 : th + hi ≤ 1000) :
  Calls Tryz.prog 61 #[.agg #[v1, v2, .int .i64 bl, .int .i64 bh, v3], .agg #[.int .i64 dl, .int .i64 dh, .int .i64 hl, .int .i64 hh, .int .i64 sl, .int .i64 sh, .int .i64 tl, .int .i64 th, .bool false, .int .i64 se], .agg #[.int .i64 3, .int .i64 lo, .int .i64 hi, .int .i64 0]] w fun e w' => e = .returned (.tuple #[.agg #[.int .i64 dl, .int .i64 dh, .int .i64 hl, .int .i64 hh, .int .i64 hl, .int .i64 hh, .int .i64 (tl + lo), .int .i64 (th + hi), .bool true, .int .i64 se], .int .i64 0]) ∧ Below w.heap.size w w' := by
 have y1 : IntKind.i64.wrap (th + hi) = th + hi := IntWalk.i64_in _ (by have := rgB_of hz; omega)
 have y2 : IntKind.i64.wrap (tl + lo) = tl + lo := IntWalk.i64_in _ (by have := rgB_of hz; omega)
 have C2 := Lib.hid (rSpread_any 0 1000 lo hi)
 rw [hz] at C2
 have d : decide (1000 < th + hi) = false := decide_eq_false (by omega)
 go_enter Tryz.func61, Tryz.ntmps61
 go_wp2_with fail
 refine (C2.out _).mono ?_
 rintro e W1 ⟨rfl, hb⟩
 obtain ⟨hB, ns, nx, nr, s0, s1, s2, s3, s4, s5, s6, s7, s8, s9, fs0, fs1, fs2, fs3, fs4, fs5, fs6, fs7, fs8, fs9, x0, x1, x2, x3, r0, r1, r2, r3, r4, r5, r6, r7, r8, r9, fr0, fr1, fr2, fr3, fr4, fr5, fr6, fr7, fr8, fr9⟩ := act_blocks hb
 clear hb
 go_wp2_with fail
 refine bodyPost_ret (v := .tuple #[.agg #[.int .i64 dl, .int .i64 dh, .int .i64 hl, .int .i64 hh, .int .i64 hl, .int .i64 hh, .int .i64 (tl + lo), .int .i64 (th + hi), .bool true, .int .i64 se], .int .i64 0]) (by simp [results, Tryz.results61, go_sem, s0, s1, s2, s3, s4, s5, s6, s7, s8, s9, fs0, fs1, fs2, fs3, fs4, fs5, fs6, fs7, fs8, fs9, r0, r1, r2, r3, r4, r5, r6, r7, r8, r9, fr0, fr1, fr2, fr3, fr4, fr5, fr6, fr7, fr8, fr9]) rfl ⟨rfl, ?_⟩
 exact (((((((((((((((hB.setCell (p := ⟨w.heap.size + 1, 8, none⟩) (by simp <;> omega) _).setCell (p := ⟨w.heap.size + 1, 4, none⟩) (by simp <;> omega) _).setCell (p := ⟨w.heap.size + 1, 5, none⟩) (by simp <;> omega) _).setCell (p := ⟨w.heap.size + 1, 6, none⟩) (by simp <;> omega) _).setCell (p := ⟨w.heap.size + 1, 7, none⟩) (by simp <;> omega) _).setCell (p := ⟨w.heap.size + 1 + 1 + 1, 0, none⟩) (by simp <;> omega) _).setCell (p := ⟨w.heap.size + 1 + 1 + 1, 1, none⟩) (by simp <;> omega) _).setCell (p := ⟨w.heap.size + 1 + 1 + 1, 2, none⟩) (by simp <;> omega) _).setCell (p := ⟨w.heap.size + 1 + 1 + 1, 3, none⟩) (by simp <;> omega) _).setCell (p := ⟨w.heap.size + 1 + 1 + 1, 4, none⟩) (by simp <;> omega) _).setCell (p := ⟨w.heap.size + 1 + 1 + 1, 5, none⟩) (by simp <;> omega) _).setCell (p := ⟨w.heap.size + 1 + 1 + 1, 6, none⟩) (by simp <;> omega) _).setCell (p := ⟨w.heap.size + 1 + 1 + 1, 7, none⟩) (by simp <;> omega) _).setCell (p := ⟨w.heap.size + 1 + 1 + 1, 8, none⟩) (by simp <;> omega) _).setCell (p := ⟨w.heap.size + 1 + 1 + 1, 9, none⟩) (by simp <;> omega) _)

set_option maxRecDepth 20000 in
set_option maxHeartbeats 1000000 in
theorem rAct_3o (v1 v2 v3 : Value) (bl bh dl dh hl hh sl sh tl th se lo hi : Int) (w : World) (hz : rgB 0 1000 lo hi = true) (ht : 0 ≤ tl ∧ tl ≤ th ∧ th ≤ 1000) (h1 : th + hi ≤ 1000) :
  Calls Tryz.prog 61 #[.agg #[v1, v2, .int .i64 bl, .int .i64 bh, v3], .agg #[.int .i64 dl, .int .i64 dh, .int .i64 hl, .int .i64 hh, .int .i64 sl, .int .i64 sh, .int .i64 tl, .int .i64 th, .bool true, .int .i64 se], .agg #[.int .i64 3, .int .i64 lo, .int .i64 hi, .int .i64 0]] w fun e w' => e = .returned (.tuple #[.agg #[.int .i64 dl, .int .i64 dh, .int .i64 hl, .int .i64 hh, .int .i64 sl, .int .i64 sh, .int .i64 (tl + lo), .int .i64 (th + hi), .bool true, .int .i64 se], .int .i64 0]) ∧ Below w.heap.size w w' := by
 have y1 : IntKind.i64.wrap (th + hi) = th + hi := IntWalk.i64_in _ (by have := rgB_of hz; omega)
 have y2 : IntKind.i64.wrap (tl + lo) = tl + lo := IntWalk.i64_in _ (by have := rgB_of hz; omega)
 have C2 := Lib.hid (rSpread_any 0 1000 lo hi)
 rw [hz] at C2
 have d : decide (1000 < th + hi) = false := decide_eq_false (by omega)
 go_enter Tryz.func61, Tryz.ntmps61
 go_wp2_with fail
 refine (C2.out _).mono ?_
 rintro e W1 ⟨rfl, hb⟩
 obtain ⟨hB, ns, nx, nr, s0, s1, s2, s3, s4, s5, s6, s7, s8, s9, fs0, fs1, fs2, fs3, fs4, fs5, fs6, fs7, fs8, fs9, x0, x1, x2, x3, r0, r1, r2, r3, r4, r5, r6, r7, r8, r9, fr0, fr1, fr2, fr3, fr4, fr5, fr6, fr7, fr8, fr9⟩ := act_blocks hb
 clear hb
 go_wp2_with fail
 refine bodyPost_ret (v := .tuple #[.agg #[.int .i64 dl, .int .i64 dh, .int .i64 hl, .int .i64 hh, .int .i64 sl, .int .i64 sh, .int .i64 (tl + lo), .int .i64 (th + hi), .bool true, .int .i64 se], .int .i64 0]) (by simp [results, Tryz.results61, go_sem, s0, s1, s2, s3, s4, s5, s6, s7, s8, s9, fs0, fs1, fs2, fs3, fs4, fs5, fs6, fs7, fs8, fs9, r0, r1, r2, r3, r4, r5, r6, r7, r8, r9, fr0, fr1, fr2, fr3, fr4, fr5, fr6, fr7, fr8, fr9]) rfl ⟨rfl, ?_⟩
 exact ((((((((((((hB.setCell (p := ⟨w.heap.size + 1, 6, none⟩) (by simp <;> omega) _).setCell (p := ⟨w.heap.size + 1, 7, none⟩) (by simp <;> omega) _).setCell (p := ⟨w.heap.size + 1 + 1 + 1, 0, none⟩) (by simp <;> omega) _).setCell (p := ⟨w.heap.size + 1 + 1 + 1, 1, none⟩) (by simp <;> omega) _).setCell (p := ⟨w.heap.size + 1 + 1 + 1, 2, none⟩) (by simp <;> omega) _).setCell (p := ⟨w.heap.size + 1 + 1 + 1, 3, none⟩) (by simp <;> omega) _).setCell (p := ⟨w.heap.size + 1 + 1 + 1, 4, none⟩) (by simp <;> omega) _).setCell (p := ⟨w.heap.size + 1 + 1 + 1, 5, none⟩) (by simp <;> omega) _).setCell (p := ⟨w.heap.size + 1 + 1 + 1, 6, none⟩) (by simp <;> omega) _).setCell (p := ⟨w.heap.size + 1 + 1 + 1, 7, none⟩) (by simp <;> omega) _).setCell (p := ⟨w.heap.size + 1 + 1 + 1, 8, none⟩) (by simp <;> omega) _).setCell (p := ⟨w.heap.size + 1 + 1 + 1, 9, none⟩) (by simp <;> omega) _)

set_option maxRecDepth 20000 in
set_option maxHeartbeats 1000000 in
theorem rAct_4l (v1 v2 v3 : Value) (bl bh dl dh hl hh sl sh tl th se lo hi m : Int) (bg : Bool) (w : World) (h1 : lo ≠ 0) :
  Calls Tryz.prog 61 #[.agg #[v1, v2, .int .i64 bl, .int .i64 bh, v3], .agg #[.int .i64 dl, .int .i64 dh, .int .i64 hl, .int .i64 hh, .int .i64 sl, .int .i64 sh, .int .i64 tl, .int .i64 th, .bool bg, .int .i64 se], .agg #[.int .i64 4, .int .i64 lo, .int .i64 hi, .int .i64 m]] w fun e w' => e = .returned (.tuple #[.agg #[.int .i64 dl, .int .i64 dh, .int .i64 hl, .int .i64 hh, .int .i64 sl, .int .i64 sh, .int .i64 tl, .int .i64 th, .bool bg, .int .i64 se], .int .i64 2]) ∧ Below w.heap.size w w' := by
 have d1 : decide (lo = 0) = false := decide_eq_false (by omega)
 have d2 : (lo == 0) = false := by simp; omega
 have d3 : (lo != 0) = true := by simp; omega
 go_enter Tryz.func61, Tryz.ntmps61
 go_wp2_with fail
 refine bodyPost_ret (v := .tuple #[.agg #[.int .i64 dl, .int .i64 dh, .int .i64 hl, .int .i64 hh, .int .i64 sl, .int .i64 sh, .int .i64 tl, .int .i64 th, .bool bg, .int .i64 se], .int .i64 2]) (by simp [results, Tryz.results61, go_sem]) rfl ⟨rfl, ?_⟩
 exact ((((Below.refl _ _).alloc (Nat.le_refl _) _).alloc (by simp) _).alloc (by simp <;> omega) _ |>.alloc (by simp <;> omega) _)

set_option maxRecDepth 20000 in
set_option maxHeartbeats 1000000 in
theorem rAct_4h (v1 v2 v3 : Value) (bl bh dl dh hl hh sl sh tl th se hi m : Int) (bg : Bool) (w : World) (h1 : hi ≠ 0) :
  Calls Tryz.prog 61 #[.agg #[v1, v2, .int .i64 bl, .int .i64 bh, v3], .agg #[.int .i64 dl, .int .i64 dh, .int .i64 hl, .int .i64 hh, .int .i64 sl, .int .i64 sh, .int .i64 tl, .int .i64 th, .bool bg, .int .i64 se], .agg #[.int .i64 4, .int .i64 0, .int .i64 hi, .int .i64 m]] w fun e w' => e = .returned (.tuple #[.agg #[.int .i64 dl, .int .i64 dh, .int .i64 hl, .int .i64 hh, .int .i64 sl, .int .i64 sh, .int .i64 tl, .int .i64 th, .bool bg, .int .i64 se], .int .i64 2]) ∧ Below w.heap.size w w' := by
 have d1 : decide (hi = 0) = false := decide_eq_false (by omega)
 have d2 : (hi == 0) = false := by simp; omega
 have d3 : (hi != 0) = true := by simp; omega
 go_enter Tryz.func61, Tryz.ntmps61
 go_wp2_with fail
 refine bodyPost_ret (v := .tuple #[.agg #[.int .i64 dl, .int .i64 dh, .int .i64 hl, .int .i64 hh, .int .i64 sl, .int .i64 sh, .int .i64 tl, .int .i64 th, .bool bg, .int .i64 se], .int .i64 2]) (by simp [results, Tryz.results61, go_sem]) rfl ⟨rfl, ?_⟩
 exact ((((Below.refl _ _).alloc (Nat.le_refl _) _).alloc (by simp) _).alloc (by simp <;> omega) _ |>.alloc (by simp <;> omega) _)

set_option maxRecDepth 20000 in
set_option maxHeartbeats 1000000 in
theorem rAct_4r (v1 v2 v3 : Value) (bl bh dl dh hl hh sl sh tl th se m : Int) (bg : Bool) (w : World) (hz : (decide (0 ≤ m) && decide (m ≤ 1000000)) = false) :
  Calls Tryz.prog 61 #[.agg #[v1, v2, .int .i64 bl, .int .i64 bh, v3], .agg #[.int .i64 dl, .int .i64 dh, .int .i64 hl, .int .i64 hh, .int .i64 sl, .int .i64 sh, .int .i64 tl, .int .i64 th, .bool bg, .int .i64 se], .agg #[.int .i64 4, .int .i64 0, .int .i64 0, .int .i64 m]] w fun e w' => e = .returned (.tuple #[.agg #[.int .i64 dl, .int .i64 dh, .int .i64 hl, .int .i64 hh, .int .i64 sl, .int .i64 sh, .int .i64 tl, .int .i64 th, .bool bg, .int .i64 se], .int .i64 3]) ∧ Below w.heap.size w w' := by
 have C3 := Lib.hid (rIn_any m 0 1000000)
 rw [hz] at C3
 go_enter Tryz.func61, Tryz.ntmps61
 go_wp2_with fail
 refine (C3.out _).mono ?_
 rintro e w' ⟨rfl, rfl⟩
 go_wp2_with fail
 refine bodyPost_ret (v := .tuple #[.agg #[.int .i64 dl, .int .i64 dh, .int .i64 hl, .int .i64 hh, .int .i64 sl, .int .i64 sh, .int .i64 tl, .int .i64 th, .bool bg, .int .i64 se], .int .i64 3]) (by simp [results, Tryz.results61, go_sem]) rfl ⟨rfl, ?_⟩
 exact ((((Below.refl _ _).alloc (Nat.le_refl _) _).alloc (by simp) _).alloc (by simp <;> omega) _ |>.alloc (by simp <;> omega) _)

set_option maxRecDepth 20000 in
set_option maxHeartbeats 1000000 in
theorem rAct_4f (v1 v2 v3 : Value) (bl bh dl dh hl hh sl sh tl th se m : Int) (bg : Bool) (w : World) (hz : (decide (0 ≤ m) && decide (m ≤ 1000000)) = true) (hs : 0 ≤ se ∧ se ≤ 1000000) (h1 : 1000000 < se + m) :
  Calls Tryz.prog 61 #[.agg #[v1, v2, .int .i64 bl, .int .i64 bh, v3], .agg #[.int .i64 dl, .int .i64 dh, .int .i64 hl, .int .i64 hh, .int .i64 sl, .int .i64 sh, .int .i64 tl, .int .i64 th, .bool bg, .int .i64 se], .agg #[.int .i64 4, .int .i64 0, .int .i64 0, .int .i64 m]] w fun e w' => e = .returned (.tuple #[.agg #[.int .i64 dl, .int .i64 dh, .int .i64 hl, .int .i64 hh, .int .i64 sl, .int .i64 sh, .int .i64 tl, .int .i64 th, .bool bg, .int .i64 se], .int .i64 10]) ∧ Below w.heap.size w w' := by
 have hm : 0 ≤ m ∧ m ≤ 1000000 := by simpa using hz
 have y1 : IntKind.i64.wrap (se + m) = se + m := IntWalk.i64_in _ (by omega)
 have C3 := Lib.hid (rIn_any m 0 1000000)
 rw [hz] at C3
 have d : decide (1000000 < se + m) = true := decide_eq_true (by omega)
 go_enter Tryz.func61, Tryz.ntmps61
 go_wp2_with fail
 refine (C3.out _).mono ?_
 rintro e w' ⟨rfl, rfl⟩
 go_wp2_with fail
 refine bodyPost_ret (v := .tuple #[.agg #[.int .i64 dl, .int .i64 dh, .int .i64 hl, .int .i64 hh, .int .i64 sl, .int .i64 sh, .int .i64 tl, .int .i64 th, .bool bg, .int .i64 se], .int .i64 10]) (by simp [results, Tryz.results61, go_sem]) rfl ⟨rfl, ?_⟩
 exact ((((Below.refl _ _).alloc (Nat.le_refl _) _).alloc (by simp) _).alloc (by simp <;> omega) _ |>.alloc (by simp <;> omega) _)

set_option maxRecDepth 20000 in
set_option maxHeartbeats 1000000 in
theorem rAct_4o (v1 v2 v3 : Value) (bl bh dl dh hl hh sl sh tl th se m : Int) (bg : Bool) (w : World) (hz : (decide (0 ≤ m) && decide (m ≤ 1000000)) = true) (hs : 0 ≤ se ∧ se ≤ 1000000) (h1 : se + m ≤ 1000000) :
  Calls Tryz.prog 61 #[.agg #[v1, v2, .int .i64 bl, .int .i64 bh, v3], .agg #[.int .i64 dl, .int .i64 dh, .int .i64 hl, .int .i64 hh, .int .i64 sl, .int .i64 sh, .int .i64 tl, .int .i64 th, .bool bg, .int .i64 se], .agg #[.int .i64 4, .int .i64 0, .int .i64 0, .int .i64 m]] w fun e w' => e = .returned (.tuple #[.agg #[.int .i64 dl, .int .i64 dh, .int .i64 hl, .int .i64 hh, .int .i64 sl, .int .i64 sh, .int .i64 tl, .int .i64 th, .bool bg, .int .i64 (se + m)], .int .i64 0]) ∧ Below w.heap.size w w' := by
 have hm : 0 ≤ m ∧ m ≤ 1000000 := by simpa using hz
 have y1 : IntKind.i64.wrap (se + m) = se + m := IntWalk.i64_in _ (by omega)
 have C3 := Lib.hid (rIn_any m 0 1000000)
 rw [hz] at C3
 have d : decide (1000000 < se + m) = false := decide_eq_false (by omega)
 go_enter Tryz.func61, Tryz.ntmps61
 go_wp2_with fail
 refine (C3.out _).mono ?_
 rintro e w' ⟨rfl, rfl⟩
 go_wp2_with fail
 refine bodyPost_ret (v := .tuple #[.agg #[.int .i64 dl, .int .i64 dh, .int .i64 hl, .int .i64 hh, .int .i64 sl, .int .i64 sh, .int .i64 tl, .int .i64 th, .bool bg, .int .i64 (se + m)], .int .i64 0]) (by simp [results, Tryz.results61, go_sem]) rfl ⟨rfl, ?_⟩
 exact ((((Below.refl _ _).alloc (Nat.le_refl _) _).alloc (by simp) _).alloc (by simp <;> omega) _ |>.alloc (by simp <;> omega) _)

set_option maxRecDepth 20000 in
set_option maxHeartbeats 1000000 in
theorem rAct_1e (v1 v2 v3 : Value) (bl bh dl dh hl hh sl sh tl th se lo hi : Int) (w : World) (D1 D2 : Int) (e1 : Int) (CD : ∀ W : World, Below w.heap.size w W → Calls Tryz.prog 17 #[.agg #[v1, v2, .int .i64 bl, .int .i64 bh, v3], .agg #[.int .i64 lo, .int .i64 hi]] W fun e w' => e = .returned (.tuple #[.agg #[.int .i64 D1, .int .i64 D2], .int .i64 e1]) ∧ Below W.heap.size W w') (h1 : e1 ≠ 0) :
  Calls Tryz.prog 61 #[.agg #[v1, v2, .int .i64 bl, .int .i64 bh, v3], .agg #[.int .i64 dl, .int .i64 dh, .int .i64 hl, .int .i64 hh, .int .i64 sl, .int .i64 sh, .int .i64 tl, .int .i64 th, .bool false, .int .i64 se], .agg #[.int .i64 1, .int .i64 lo, .int .i64 hi, .int .i64 0]] w fun e w' => e = .returned (.tuple #[.agg #[.int .i64 dl, .int .i64 dh, .int .i64 hl, .int .i64 hh, .int .i64 sl, .int .i64 sh, .int .i64 tl, .int .i64 th, .bool false, .int .i64 se], .int .i64 e1]) ∧ Below w.heap.size w w' := by
 replace CD := Lib.hid CD
 have d1 : decide (e1 = 0) = false := decide_eq_false (by omega)
 have d2 : (e1 == 0) = false := by simp; omega
 have d3 : (e1 != 0) = true := by simp; omega
 go_enter Tryz.func61, Tryz.ntmps61
 go_wp2_with fail
 refine (CD.out _ ((((Below.refl _ _).alloc (Nat.le_refl _) _).alloc (by simp) _).alloc (by simp <;> omega) _ |>.alloc (by simp <;> omega) _)).mono ?_
 rintro e W1 ⟨rfl, hb⟩
 obtain ⟨hB, ns, nx, nr, s0, s1, s2, s3, s4, s5, s6, s7, s8, s9, fs0, fs1, fs2, fs3, fs4, fs5, fs6, fs7, fs8, fs9, x0, x1, x2, x3, r0, r1, r2, r3, r4, r5, r6, r7, r8, r9, fr0, fr1, fr2, fr3, fr4, fr5, fr6, fr7, fr8, fr9⟩ := act_blocks hb
 clear hb
 go_upto_region 8 with fail
 have hb : Below W1.heap.size W1 (W1.alloc (Obj.cells #[.int .i64 D1, .int .i64 D2] 24)) := ((Below.refl _ _).alloc (Nat.le_refl _) _)
 replace s0 := cell_next hb ns s0
 replace fs0 := frozen_next hb ns fs0
 replace s1 := cell_next hb ns s1
 replace fs1 := frozen_next hb ns fs1
 replace s2 := cell_next hb ns s2
 replace fs2 := frozen_next hb ns fs2
 replace s3 := cell_next hb ns s3
 replace fs3 := frozen_next hb ns fs3
 replace s4 := cell_next hb ns s4
 replace fs4 := frozen_next hb ns fs4
 replace s5 := cell_next hb ns s5
 replace fs5 := frozen_next hb ns fs5
 replace s6 := cell_next hb ns s6
 replace fs6 := frozen_next hb ns fs6
 replace s7 := cell_next hb ns s7
 replace fs7 := frozen_next hb ns fs7
 replace s8 := cell_next hb ns s8
 replace fs8 := frozen_next hb ns fs8
 replace s9 := cell_next hb ns s9
 replace fs9 := frozen_next hb ns fs9
 replace ns := Nat.lt_of_lt_of_le ns hb.size
 replace x0 := cell_next hb nx x0
 replace x1 := cell_next hb nx x1
 replace x2 := cell_next hb nx x2
 replace x3 := cell_next hb nx x3
 replace nx := Nat.lt_of_lt_of_le nx hb.size
 replace r0 := cell_next hb nr r0
 replace fr0 := frozen_next hb nr fr0
 replace r1 := cell_next hb nr r1
 replace fr1 := frozen_next hb nr fr1
 replace r2 := cell_next hb nr r2
 replace fr2 := frozen_next hb nr fr2
 replace r3 := cell_next hb nr r3
 replace fr3 := frozen_next hb nr fr3
 replace r4 := cell_next hb nr r4
 replace fr4 := frozen_next hb nr fr4
 replace r5 := cell_next hb nr r5
 replace fr5 := frozen_next hb nr fr5
 replace r6 := cell_next hb nr r6
 replace fr6 := frozen_next hb nr fr6
 replace r7 := cell_next hb nr r7
 replace fr7 := frozen_next hb nr fr7
 replace r8 := cell_next hb nr r8
 replace fr8 := frozen_next hb nr fr8
 replace r9 := cell_next hb nr r9
 replace fr9 := frozen_next hb nr fr9
 replace nr := Nat.lt_of_lt_of_le nr hb.size
 have d0 : (W1.alloc (Obj.cells #[.int .i64 D1, .int .i64 D2] 24)).cell? ⟨W1.heap.size, 0, none⟩ = some (.int .i64 D1) := by simp [go_sem]
 have d1 : (W1.alloc (Obj.cells #[.int .i64 D1, .int .i64 D2] 24)).cell? ⟨W1.heap.size, 1, none⟩ = some (.int .i64 D2) := by simp [go_sem]
 have nd : W1.heap.size < (W1.alloc (Obj.cells #[.int .i64 D1, .int .i64 D2] 24)).heap.size := by simp <;> omega
 replace hB := hB.trans (hb.mono hB.size)
 clear hb
 generalize (W1.alloc (Obj.cells #[.int .i64 D1, .int .i64 D2] 24)) = W2 at *
 generalize W1.heap.size = q2 at *
 go_wp2_with fail
 refine bodyPost_ret (v := .tuple #[.agg #[.int .i64 dl, .int .i64 dh, .int .i64 hl, .int .i64 hh, .int .i64 sl, .int .i64 sh, .int .i64 tl, .int .i64 th, .bool false, .int .i64 se], .int .i64 e1]) (by simp [results, Tryz.results61, go_sem, s0, s1, s2, s3, s4, s5, s6, s7, s8, s9, fs0, fs1, fs2, fs3, fs4, fs5, fs6, fs7, fs8, fs9, r0, r1, r2, r3, r4, r5, r6, r7, r8, r9, fr0, fr1, fr2, fr3, fr4, fr5, fr6, fr7, fr8, fr9]) rfl ⟨rfl, ?_⟩
 exact ((((((((((hB.setCell (p := ⟨w.heap.size + 1 + 1 + 1, 0, none⟩) (by simp <;> omega) _).setCell (p := ⟨w.heap.size + 1 + 1 + 1, 1, none⟩) (by simp <;> omega) _).setCell (p := ⟨w.heap.size + 1 + 1 + 1, 2, none⟩) (by simp <;> omega) _).setCell (p := ⟨w.heap.size + 1 + 1 + 1, 3, none⟩) (by simp <;> omega) _).setCell (p := ⟨w.heap.size + 1 + 1 + 1, 4, none⟩) (by simp <;> omega) _).setCell (p := ⟨w.heap.size + 1 + 1 + 1, 5, none⟩) (by simp <;> omega) _).setCell (p := ⟨w.heap.size + 1 + 1 + 1, 6, none⟩) (by simp <;> omega) _).setCell (p := ⟨w.heap.size + 1 + 1 + 1, 7, none⟩) (by simp <;> omega) _).setCell (p := ⟨w.heap.size + 1 + 1 + 1, 8, none⟩) (by simp <;> omega) _).setCell (p := ⟨w.heap.size + 1 + 1 + 1, 9, none⟩) (by simp <;> omega) _)

set_option maxRecDepth 20000 in
set_option maxHeartbeats 1000000 in
theorem rAct_1o (v1 v2 v3 : Value) (bl bh dl dh hl hh sl sh tl th se lo hi : Int) (w : World) (D1 D2 : Int) (CD : ∀ W : World, Below w.heap.size w W → Calls Tryz.prog 17 #[.agg #[v1, v2, .int .i64 bl, .int .i64 bh, v3], .agg #[.int .i64 lo, .int .i64 hi]] W fun e w' => e = .returned (.tuple #[.agg #[.int .i64 D1, .int .i64 D2], .int .i64 0]) ∧ Below W.heap.size W w') :
  Calls Tryz.prog 61 #[.agg #[v1, v2, .int .i64 bl, .int .i64 bh, v3], .agg #[.int .i64 dl, .int .i64 dh, .int .i64 hl, .int .i64 hh, .int .i64 sl, .int .i64 sh, .int .i64 tl, .int .i64 th, .bool false, .int .i64 se], .agg #[.int .i64 1, .int .i64 lo, .int .i64 hi, .int .i64 0]] w fun e w' => e = .returned (.tuple #[.agg #[.int .i64 (max dl D1), .int .i64 (max dh D2), .int .i64 lo, .int .i64 hi, .int .i64 sl, .int .i64 sh, .int .i64 tl, .int .i64 th, .bool false, .int .i64 se], .int .i64 0]) ∧ Below w.heap.size w w' := by
 replace CD := Lib.hid CD
 go_enter Tryz.func61, Tryz.ntmps61
 have G := Lib.hid (rGreater_any dl dh D1 D2)
 go_wp2_with fail
 refine (CD.out _ ((((Below.refl _ _).alloc (Nat.le_refl _) _).alloc (by simp) _).alloc (by simp <;> omega) _ |>.alloc (by simp <;> omega) _)).mono ?_
 rintro e W1 ⟨rfl, hb⟩
 obtain ⟨hB, ns, nx, nr, s0, s1, s2, s3, s4, s5, s6, s7, s8, s9, fs0, fs1, fs2, fs3, fs4, fs5, fs6, fs7, fs8, fs9, x0, x1, x2, x3, r0, r1, r2, r3, r4, r5, r6, r7, r8, r9, fr0, fr1, fr2, fr3, fr4, fr5, fr6, fr7, fr8, fr9⟩ := act_blocks hb
 clear hb
 go_wp2_with fail
 have od := ns
 have hb : Below W1.heap.size W1 (W1.alloc (Obj.cells #[.int .i64 D1, .int .i64 D2] 24)) := ((Below.refl _ _).alloc (Nat.le_refl _) _)
 replace s0 := cell_next hb ns s0
 replace fs0 := frozen_next hb ns fs0
 replace s1 := cell_next hb ns s1
 replace fs1 := frozen_next hb ns fs1
 replace s2 := cell_next hb ns s2
 replace fs2 := frozen_next hb ns fs2
 replace s3 := cell_next hb ns s3
 replace fs3 := frozen_next hb ns fs3
 replace s4 := cell_next hb ns s4
 replace fs4 := frozen_next hb ns fs4
 replace s5 := cell_next hb ns s5
 replace fs5 := frozen_next hb ns fs5
 replace s6 := cell_next hb ns s6
 replace fs6 := frozen_next hb ns fs6
 replace s7 := cell_next hb ns s7
 replace fs7 := frozen_next hb ns fs7
 replace s8 := cell_next hb ns s8
 replace fs8 := frozen_next hb ns fs8
 replace s9 := cell_next hb ns s9
 replace fs9 := frozen_next hb ns fs9
 replace ns := Nat.lt_of_lt_of_le ns hb.size
 replace x0 := cell_next hb nx x0
 replace x1 := cell_next hb nx x1
 replace x2 := cell_next hb nx x2
 replace x3 := cell_next hb nx x3
 replace nx := Nat.lt_of_lt_of_le nx hb.size
 replace r0 := cell_next hb nr r0
 replace fr0 := frozen_next hb nr fr0
 replace r1 := cell_next hb nr r1
 replace fr1 := frozen_next hb nr fr1
 replace r2 := cell_next hb nr r2
 replace fr2 := frozen_next hb nr fr2
 replace r3 := cell_next hb nr r3
 replace fr3 := frozen_next hb nr fr3
 replace r4 := cell_next hb nr r4
 replace fr4 := frozen_next hb nr fr4
 replace r5 := cell_next hb nr r5
 replace fr5 := frozen_next hb nr fr5
 replace r6 := cell_next hb nr r6
 replace fr6 := frozen_next hb nr fr6
 replace r7 := cell_next hb nr r7
 replace fr7 := frozen_next hb nr fr7
 replace r8 := cell_next hb nr r8
 replace fr8 := frozen_next hb nr fr8
 replace r9 := cell_next hb nr r9
 replace fr9 := frozen_next hb nr fr9
 replace nr := Nat.lt_of_lt_of_le nr hb.size
 have d0 : (W1.alloc (Obj.cells #[.int .i64 D1, .int .i64 D2] 24)).cell? ⟨W1.heap.size, 0, none⟩ = some (.int .i64 D1) := by simp [go_sem]
 have d1 : (W1.alloc (Obj.cells #[.int .i64 D1, .int .i64 D2] 24)).cell? ⟨W1.heap.size, 1, none⟩ = some (.int .i64 D2) := by simp [go_sem]
 have nd : W1.heap.size < (W1.alloc (Obj.cells #[.int .i64 D1, .int .i64 D2] 24)).heap.size := by simp <;> omega
 replace hB := hB.trans (hb.mono hB.size)
 clear hb
 generalize (W1.alloc (Obj.cells #[.int .i64 D1, .int .i64 D2] 24)) = W2 at *
 generalize W1.heap.size = q2 at *
 have hBW : w.heap.size ≤ W2.heap.size := hB.size
 refine wp_region_held_drew (S := fun w' => w'.cell? ⟨w.heap.size + 1 + 1, 1, none⟩ = some (.int .i64 lo) ∧ w'.cell? ⟨w.heap.size + 1 + 1, 2, none⟩ = some (.int .i64 hi) ∧ w'.cell? ⟨q2, 0, none⟩ = some (.int .i64 D1) ∧ w'.cell? ⟨q2, 1, none⟩ = some (.int .i64 D2) ∧ True) (by kernel_rfl) ?_ (fun hHeld => ?_)
 focus (exact ⟨x1, x2, d0, d1, trivial⟩)
 have hL : Below w.heap.size W2 W2.drew := Below.drew (Below.refl _ _)
 replace s0 : W2.drew.cell? ⟨w.heap.size + 1, 0, none⟩ = some (.int .i64 dl) := s0
 replace fs0 : W2.drew.frozen? ⟨w.heap.size + 1, 0, none⟩ = false := fs0
 replace s1 : W2.drew.cell? ⟨w.heap.size + 1, 1, none⟩ = some (.int .i64 dh) := s1
 replace fs1 : W2.drew.frozen? ⟨w.heap.size + 1, 1, none⟩ = false := fs1
 replace s2 : W2.drew.cell? ⟨w.heap.size + 1, 2, none⟩ = some (.int .i64 hl) := s2
 replace fs2 : W2.drew.frozen? ⟨w.heap.size + 1, 2, none⟩ = false := fs2
 replace s3 : W2.drew.cell? ⟨w.heap.size + 1, 3, none⟩ = some (.int .i64 hh) := s3
 replace fs3 : W2.drew.frozen? ⟨w.heap.size + 1, 3, none⟩ = false := fs3
 replace s4 : W2.drew.cell? ⟨w.heap.size + 1, 4, none⟩ = some (.int .i64 sl) := s4
 replace fs4 : W2.drew.frozen? ⟨w.heap.size + 1, 4, none⟩ = false := fs4
 replace s5 : W2.drew.cell? ⟨w.heap.size + 1, 5, none⟩ = some (.int .i64 sh) := s5
 replace fs5 : W2.drew.frozen? ⟨w.heap.size + 1, 5, none⟩ = false := fs5
 replace s6 : W2.drew.cell? ⟨w.heap.size + 1, 6, none⟩ = some (.int .i64 tl) := s6
 replace fs6 : W2.drew.frozen? ⟨w.heap.size + 1, 6, none⟩ = false := fs6
 replace s7 : W2.drew.cell? ⟨w.heap.size + 1, 7, none⟩ = some (.int .i64 th) := s7
 replace fs7 : W2.drew.frozen? ⟨w.heap.size + 1, 7, none⟩ = false := fs7
 replace s8 : W2.drew.cell? ⟨w.heap.size + 1, 8, none⟩ = some (.bool false) := s8
 replace fs8 : W2.drew.frozen? ⟨w.heap.size + 1, 8, none⟩ = false := fs8
 replace s9 : W2.drew.cell? ⟨w.heap.size + 1, 9, none⟩ = some (.int .i64 se) := s9
 replace fs9 : W2.drew.frozen? ⟨w.heap.size + 1, 9, none⟩ = false := fs9
 replace x0 : W2.drew.cell? ⟨w.heap.size + 1 + 1, 0, none⟩ = some (.int .i64 1) := x0
 replace x1 : W2.drew.cell? ⟨w.heap.size + 1 + 1, 1, none⟩ = some (.int .i64 lo) := x1
 replace x2 : W2.drew.cell? ⟨w.heap.size + 1 + 1, 2, none⟩ = some (.int .i64 hi) := x2
 replace x3 : W2.drew.cell? ⟨w.heap.size + 1 + 1, 3, none⟩ = some (.int .i64 0) := x3
 replace r0 : W2.drew.cell? ⟨w.heap.size + 1 + 1 + 1, 0, none⟩ = some (.int .i64 0) := r0
 replace fr0 : W2.drew.frozen? ⟨w.heap.size + 1 + 1 + 1, 0, none⟩ = false := fr0
 replace r1 : W2.drew.cell? ⟨w.heap.size + 1 + 1 + 1, 1, none⟩ = some (.int .i64 0) := r1
 replace fr1 : W2.drew.frozen? ⟨w.heap.size + 1 + 1 + 1, 1, none⟩ = false := fr1
 replace r2 : W2.drew.cell? ⟨w.heap.size + 1 + 1 + 1, 2, none⟩ = some (.int .i64 0) := r2
 replace fr2 : W2.drew.frozen? ⟨w.heap.size + 1 + 1 + 1, 2, none⟩ = false := fr2
 replace r3 : W2.drew.cell? ⟨w.heap.size + 1 + 1 + 1, 3, none⟩ = some (.int .i64 0) := r3
 replace fr3 : W2.drew.frozen? ⟨w.heap.size + 1 + 1 + 1, 3, none⟩ = false := fr3
 replace r4 : W2.drew.cell? ⟨w.heap.size + 1 + 1 + 1, 4, none⟩ = some (.int .i64 0) := r4
 replace fr4 : W2.drew.frozen? ⟨w.heap.size + 1 + 1 + 1, 4, none⟩ = false := fr4
 replace r5 : W2.drew.cell? ⟨w.heap.size + 1 + 1 + 1, 5, none⟩ = some (.int .i64 0) := r5
 replace fr5 : W2.drew.frozen? ⟨w.heap.size + 1 + 1 + 1, 5, none⟩ = false := fr5
 replace r6 : W2.drew.cell? ⟨w.heap.size + 1 + 1 + 1, 6, none⟩ = some (.int .i64 0) := r6
 replace fr6 : W2.drew.frozen? ⟨w.heap.size + 1 + 1 + 1, 6, none⟩ = false := fr6
 replace r7 : W2.drew.cell? ⟨w.heap.size + 1 + 1 + 1, 7, none⟩ = some (.int .i64 0) := r7
 replace fr7 : W2.drew.frozen? ⟨w.heap.size + 1 + 1 + 1, 7, none⟩ = false := fr7
 replace r8 : W2.drew.cell? ⟨w.heap.size + 1 + 1 + 1, 8, none⟩ = some (.bool false) := r8
 replace fr8 : W2.drew.frozen? ⟨w.heap.size + 1 + 1 + 1, 8, none⟩ = false := fr8
 replace r9 : W2.drew.cell? ⟨w.heap.size + 1 + 1 + 1, 9, none⟩ = some (.int .i64 0) := r9
 replace fr9 : W2.drew.frozen? ⟨w.heap.size + 1 + 1 + 1, 9, none⟩ = false := fr9
 replace d0 : W2.drew.cell? ⟨q2, 0, none⟩ = some (.int .i64 D1) := d0
 replace d1 : W2.drew.cell? ⟨q2, 1, none⟩ = some (.int .i64 D2) := d1
 replace ns : w.heap.size + 1 < W2.drew.heap.size := ns
 replace nx : w.heap.size + 1 + 1 < W2.drew.heap.size := nx
 replace nr : w.heap.size + 1 + 1 + 1 < W2.drew.heap.size := nr
 replace nd : q2 < W2.drew.heap.size := nd
 generalize hWd : W2.drew = wd3 at hHeld hL s0 fs0 s1 fs1 s2 fs2 s3 fs3 s4 fs4 s5 fs5 s6 fs6 s7 fs7 s8 fs8 s9 fs9 x0 x1 x2 x3 r0 fr0 r1 fr1 r2 fr2 r3 fr3 r4 fr4 r5 fr5 r6 fr6 r7 fr7 r8 fr8 r9 fr9 d0 d1 ns nx nr nd  ⊢
 clear hWd
 refine tq 0 32 ?_ ?_ ?_; rotate_left; (focus intro w h; (try dsimp only at h); go_simp; try with_reducible rfl); try simp only [sA, sB, sC]
 refine tq 2 34 ?_ ?_ ?_; rotate_left; (focus intro w h; (try dsimp only at h); go_simp; try with_reducible rfl); try simp only [sA, sB, sC]
 refine tq 4 36 ?_ ?_ ?_; rotate_left; (focus intro w h; (try dsimp only at h); go_simp; try with_reducible rfl); try simp only [sA, sB, sC]
 refine tq 5 37 ?_ ?_ ?_; rotate_left; (focus intro w h; (try dsimp only at h); go_simp; try with_reducible rfl); try simp only [sA, sB, sC]
 refine rd1 1 (fun K hK => ?_)
 go_simp
 refine hK.out _ _ ⟨x1, x2, d0, d1, trivial⟩ (fun hHeld => ?_)
 clear hK K
 try simp only [Act.put, sA, sB, sC]
 refine rd1 3 (fun K hK => ?_)
 go_simp
 refine (G.out _).mono ?_
 rintro e Z3x2 ⟨rfl, hb⟩
 replace s0 := cell_next hb ns s0
 replace fs0 := frozen_next hb ns fs0
 replace s1 := cell_next hb ns s1
 replace fs1 := frozen_next hb ns fs1
 replace s2 := cell_next hb ns s2
 replace fs2 := frozen_next hb ns fs2
 replace s3 := cell_next hb ns s3
 replace fs3 := frozen_next hb ns fs3
 replace s4 := cell_next hb ns s4
 replace fs4 := frozen_next hb ns fs4
 replace s5 := cell_next hb ns s5
 replace fs5 := frozen_next hb ns fs5
 replace s6 := cell_next hb ns s6
 replace fs6 := frozen_next hb ns fs6
 replace s7 := cell_next hb ns s7
 replace fs7 := frozen_next hb ns fs7
 replace s8 := cell_next hb ns s8
 replace fs8 := frozen_next hb ns fs8
 replace s9 := cell_next hb ns s9
 replace fs9 := frozen_next hb ns fs9
 replace x0 := cell_next hb nx x0
 replace x1 := cell_next hb nx x1
 replace x2 := cell_next hb nx x2
 replace x3 := cell_next hb nx x3
 replace r0 := cell_next hb nr r0
 replace fr0 := frozen_next hb nr fr0
 replace r1 := cell_next hb nr r1
 replace fr1 := frozen_next hb nr fr1
 replace r2 := cell_next hb nr r2
 replace fr2 := frozen_next hb nr fr2
 replace r3 := cell_next hb nr r3
 replace fr3 := frozen_next hb nr fr3
 replace r4 := cell_next hb nr r4
 replace fr4 := frozen_next hb nr fr4
 replace r5 := cell_next hb nr r5
 replace fr5 := frozen_next hb nr fr5
 replace r6 := cell_next hb nr r6
 replace fr6 := frozen_next hb nr fr6
 replace r7 := cell_next hb nr r7
 replace fr7 := frozen_next hb nr fr7
 replace r8 := cell_next hb nr r8
 replace fr8 := frozen_next hb nr fr8
 replace r9 := cell_next hb nr r9
 replace fr9 := frozen_next hb nr fr9
 replace d0 := cell_next hb nd d0
 replace d1 := cell_next hb nd d1
 replace ns := Nat.lt_of_lt_of_le ns hb.size
 replace nx := Nat.lt_of_lt_of_le nx hb.size
 replace nr := Nat.lt_of_lt_of_le nr hb.size
 replace nd := Nat.lt_of_lt_of_le nd hb.size
 replace hL := hL.trans (hb.mono (Nat.le_trans hBW hL.size))
 refine hK.out _ _ ⟨x1, x2, d0, d1, trivial⟩ (fun hHeld => ?_)
 clear hK K hb
 try simp only [Act.put, sA, sB, sC]
 refine tq 6 38 ?_ ?_ ?_; rotate_left; (focus intro w h; (try dsimp only at h); go_simp; try with_reducible rfl); try simp only [sA, sB, sC]
 refine rd1 7 (fun K hK => ?_)
 go_simp
 have FAR : ∀ {b2 o2 : Nat} {v2 : Option Value}, ¬ (b2 = w.heap.size + 1 ∧ (o2 = 0 ∨ o2 = 1)) → Z3x2.cell? ⟨b2, o2, none⟩ = v2 → ((Z3x2.setCell ⟨w.heap.size + 1, 0, none⟩ (.int .i64 (max dl D1))).setCell ⟨w.heap.size + 1, 1, none⟩ (.int .i64 (max dh D2))).cell? ⟨b2, o2, none⟩ = v2 := fun h1 h2 => (so (by omega)).trans ((so (by omega)).trans (h2))
 have FRZ : ∀ {b2 o2 : Nat} {v2 : Bool}, Z3x2.frozen? ⟨b2, o2, none⟩ = v2 → ((Z3x2.setCell ⟨w.heap.size + 1, 0, none⟩ (.int .i64 (max dl D1))).setCell ⟨w.heap.size + 1, 1, none⟩ (.int .i64 (max dh D2))).frozen? ⟨b2, o2, none⟩ = v2 := fun h2 => by simp [go_sem, h2]
 have NSZ : ∀ {b2 : Nat}, b2 < Z3x2.heap.size → b2 < ((Z3x2.setCell ⟨w.heap.size + 1, 0, none⟩ (.int .i64 (max dl D1))).setCell ⟨w.heap.size + 1, 1, none⟩ (.int .i64 (max dh D2))).heap.size := fun h2 => by simpa [World.setCell] using h2
 have HIT : ∀ W9, W9 = ((Z3x2.setCell ⟨w.heap.size + 1, 0, none⟩ (.int .i64 (max dl D1))).setCell ⟨w.heap.size + 1, 1, none⟩ (.int .i64 (max dh D2))) → W9.cell? ⟨w.heap.size + 1, 0, none⟩ = some (.int .i64 (max dl D1)) ∧ W9.cell? ⟨w.heap.size + 1, 1, none⟩ = some (.int .i64 (max dh D2)) := by
  intro W9 h9
  subst h9
  exact ⟨by simp [go_sem, s0], by simp [go_sem, s1]⟩
 clear s0 s1
 obtain ⟨s0, s1⟩ := HIT _ rfl
 replace fs0 := FRZ fs0
 replace fs1 := FRZ fs1
 replace s2 := FAR (by omega) s2
 replace fs2 := FRZ fs2
 replace s3 := FAR (by omega) s3
 replace fs3 := FRZ fs3
 replace s4 := FAR (by omega) s4
 replace fs4 := FRZ fs4
 replace s5 := FAR (by omega) s5
 replace fs5 := FRZ fs5
 replace s6 := FAR (by omega) s6
 replace fs6 := FRZ fs6
 replace s7 := FAR (by omega) s7
 replace fs7 := FRZ fs7
 replace s8 := FAR (by omega) s8
 replace fs8 := FRZ fs8
 replace s9 := FAR (by omega) s9
 replace fs9 := FRZ fs9
 replace x0 := FAR (by omega) x0
 replace x1 := FAR (by omega) x1
 replace x2 := FAR (by omega) x2
 replace x3 := FAR (by omega) x3
 replace r0 := FAR (by omega) r0
 replace fr0 := FRZ fr0
 replace r1 := FAR (by omega) r1
 replace fr1 := FRZ fr1
 replace r2 := FAR (by omega) r2
 replace fr2 := FRZ fr2
 replace r3 := FAR (by omega) r3
 replace fr3 := FRZ fr3
 replace r4 := FAR (by omega) r4
 replace fr4 := FRZ fr4
 replace r5 := FAR (by omega) r5
 replace fr5 := FRZ fr5
 replace r6 := FAR (by omega) r6
 replace fr6 := FRZ fr6
 replace r7 := FAR (by omega) r7
 replace fr7 := FRZ fr7
 replace r8 := FAR (by omega) r8
 replace fr8 := FRZ fr8
 replace r9 := FAR (by omega) r9
 replace fr9 := FRZ fr9
 replace d0 := FAR (by omega) d0
 replace d1 := FAR (by omega) d1
 replace ns := NSZ ns
 replace nx := NSZ nx
 replace nr := NSZ nr
 replace nd := NSZ nd
 clear FAR NSZ FRZ HIT
 replace hL := hL.setCell (p := ⟨w.heap.size + 1, 0, none⟩) (by show w.heap.size ≤ w.heap.size + 1; omega) (.int .i64 (max dl D1))
 replace hL := hL.setCell (p := ⟨w.heap.size + 1, 1, none⟩) (by show w.heap.size ≤ w.heap.size + 1; omega) (.int .i64 (max dh D2))
 refine hK.out _ _ ⟨x1, x2, d0, d1, trivial⟩ (fun hHeld => ?_)
 clear hK K
 try simp only [Act.put, sA, sB, sC]
 refine tq 8 39 ?_ ?_ ?_; rotate_left; (focus intro w h; (try dsimp only at h); go_simp; try with_reducible rfl); try simp only [sA, sB, sC]
 refine rd1 9 (fun K hK => ?_)
 go_simp
 have FAR : ∀ {b2 o2 : Nat} {v2 : Option Value}, ¬ (b2 = w.heap.size + 1 ∧ (o2 = 2 ∨ o2 = 3)) → ((Z3x2.setCell ⟨w.heap.size + 1, 0, none⟩ (.int .i64 (max dl D1))).setCell ⟨w.heap.size + 1, 1, none⟩ (.int .i64 (max dh D2))).cell? ⟨b2, o2, none⟩ = v2 → ((((Z3x2.setCell ⟨w.heap.size + 1, 0, none⟩ (.int .i64 (max dl D1))).setCell ⟨w.heap.size + 1, 1, none⟩ (.int .i64 (max dh D2))).setCell ⟨w.heap.size + 1, 2, none⟩ (.int .i64 lo)).setCell ⟨w.heap.size + 1, 3, none⟩ (.int .i64 hi)).cell? ⟨b2, o2, none⟩ = v2 := fun h1 h2 => (so (by omega)).trans ((so (by omega)).trans (h2))
 have FRZ : ∀ {b2 o2 : Nat} {v2 : Bool}, ((Z3x2.setCell ⟨w.heap.size + 1, 0, none⟩ (.int .i64 (max dl D1))).setCell ⟨w.heap.size + 1, 1, none⟩ (.int .i64 (max dh D2))).frozen? ⟨b2, o2, none⟩ = v2 → ((((Z3x2.setCell ⟨w.heap.size + 1, 0, none⟩ (.int .i64 (max dl D1))).setCell ⟨w.heap.size + 1, 1, none⟩ (.int .i64 (max dh D2))).setCell ⟨w.heap.size + 1, 2, none⟩ (.int .i64 lo)).setCell ⟨w.heap.size + 1, 3, none⟩ (.int .i64 hi)).frozen? ⟨b2, o2, none⟩ = v2 := fun h2 => by simp [go_sem, h2]
 have NSZ : ∀ {b2 : Nat}, b2 < ((Z3x2.setCell ⟨w.heap.size + 1, 0, none⟩ (.int .i64 (max dl D1))).setCell ⟨w.heap.size + 1, 1, none⟩ (.int .i64 (max dh D2))).heap.size → b2 < ((((Z3x2.setCell ⟨w.heap.size + 1, 0, none⟩ (.int .i64 (max dl D1))).setCell ⟨w.heap.size + 1, 1, none⟩ (.int .i64 (max dh D2))).setCell ⟨w.heap.size + 1, 2, none⟩ (.int .i64 lo)).setCell ⟨w.heap.size + 1, 3, none⟩ (.int .i64 hi)).heap.size := fun h2 => by simpa [World.setCell] using h2
 have HIT : ∀ W9, W9 = ((((Z3x2.setCell ⟨w.heap.size + 1, 0, none⟩ (.int .i64 (max dl D1))).setCell ⟨w.heap.size + 1, 1, none⟩ (.int .i64 (max dh D2))).setCell ⟨w.heap.size + 1, 2, none⟩ (.int .i64 lo)).setCell ⟨w.heap.size + 1, 3, none⟩ (.int .i64 hi)) → W9.cell? ⟨w.heap.size + 1, 2, none⟩ = some (.int .i64 lo) ∧ W9.cell? ⟨w.heap.size + 1, 3, none⟩ = some (.int .i64 hi) := by
  intro W9 h9
  subst h9
  exact ⟨by simp [go_sem, s2], by simp [go_sem, s3]⟩
 clear s2 s3
 obtain ⟨s2, s3⟩ := HIT _ rfl
 replace s0 := FAR (by omega) s0
 replace fs0 := FRZ fs0
 replace s1 := FAR (by omega) s1
 replace fs1 := FRZ fs1
 replace fs2 := FRZ fs2
 replace fs3 := FRZ fs3
 replace s4 := FAR (by omega) s4
 replace fs4 := FRZ fs4
 replace s5 := FAR (by omega) s5
 replace fs5 := FRZ fs5
 replace s6 := FAR (by omega) s6
 replace fs6 := FRZ fs6
 replace s7 := FAR (by omega) s7
 replace fs7 := FRZ fs7
 replace s8 := FAR (by omega) s8
 replace fs8 := FRZ fs8
 replace s9 := FAR (by omega) s9
 replace fs9 := FRZ fs9
 replace x0 := FAR (by omega) x0
 replace x1 := FAR (by omega) x1
 replace x2 := FAR (by omega) x2
 replace x3 := FAR (by omega) x3
 replace r0 := FAR (by omega) r0
 replace fr0 := FRZ fr0
 replace r1 := FAR (by omega) r1
 replace fr1 := FRZ fr1
 replace r2 := FAR (by omega) r2
 replace fr2 := FRZ fr2
 replace r3 := FAR (by omega) r3
 replace fr3 := FRZ fr3
 replace r4 := FAR (by omega) r4
 replace fr4 := FRZ fr4
 replace r5 := FAR (by omega) r5
 replace fr5 := FRZ fr5
 replace r6 := FAR (by omega) r6
 replace fr6 := FRZ fr6
 replace r7 := FAR (by omega) r7
 replace fr7 := FRZ fr7
 replace r8 := FAR (by omega) r8
 replace fr8 := FRZ fr8
 replace r9 := FAR (by omega) r9
 replace fr9 := FRZ fr9
 replace d0 := FAR (by omega) d0
 replace d1 := FAR (by omega) d1
 replace ns := NSZ ns
 replace nx := NSZ nx
 replace nr := NSZ nr
 replace nd := NSZ nd
 clear FAR NSZ FRZ HIT
 replace hL := hL.setCell (p := ⟨w.heap.size + 1, 2, none⟩) (by show w.heap.size ≤ w.heap.size + 1; omega) (.int .i64 lo)
 replace hL := hL.setCell (p := ⟨w.heap.size + 1, 3, none⟩) (by show w.heap.size ≤ w.heap.size + 1; omega) (.int .i64 hi)
 refine hK.out _ _ ⟨x1, x2, d0, d1, trivial⟩ (fun hHeld => ?_)
 clear hK K
 try simp only [Act.put, sA, sB, sC]
 refine wpAnyH_done (by kernel_rfl) ?_ _
 replace hB := hB.trans hL
 clear hHeld hL hBW
 go_wp2_with fail
 refine bodyPost_ret (v := .tuple #[.agg #[.int .i64 (max dl D1), .int .i64 (max dh D2), .int .i64 lo, .int .i64 hi, .int .i64 sl, .int .i64 sh, .int .i64 tl, .int .i64 th, .bool false, .int .i64 se], .int .i64 0]) (by simp [results, Tryz.results61, go_sem, s0, s1, s2, s3, s4, s5, s6, s7, s8, s9, fs0, fs1, fs2, fs3, fs4, fs5, fs6, fs7, fs8, fs9, r0, r1, r2, r3, r4, r5, r6, r7, r8, r9, fr0, fr1, fr2, fr3, fr4, fr5, fr6, fr7, fr8, fr9]) rfl ⟨rfl, ?_⟩
 exact ((((((((((hB.setCell (p := ⟨w.heap.size + 1 + 1 + 1, 0, none⟩) (by simp <;> omega) _).setCell (p := ⟨w.heap.size + 1 + 1 + 1, 1, none⟩) (by simp <;> omega) _).setCell (p := ⟨w.heap.size + 1 + 1 + 1, 2, none⟩) (by simp <;> omega) _).setCell (p := ⟨w.heap.size + 1 + 1 + 1, 3, none⟩) (by simp <;> omega) _).setCell (p := ⟨w.heap.size + 1 + 1 + 1, 4, none⟩) (by simp <;> omega) _).setCell (p := ⟨w.heap.size + 1 + 1 + 1, 5, none⟩) (by simp <;> omega) _).setCell (p := ⟨w.heap.size + 1 + 1 + 1, 6, none⟩) (by simp <;> omega) _).setCell (p := ⟨w.heap.size + 1 + 1 + 1, 7, none⟩) (by simp <;> omega) _).setCell (p := ⟨w.heap.size + 1 + 1 + 1, 8, none⟩) (by simp <;> omega) _).setCell (p := ⟨w.heap.size + 1 + 1 + 1, 9, none⟩) (by simp <;> omega) _)

set_option maxRecDepth 20000 in
set_option maxHeartbeats 1000000 in
theorem rAct_any (v1 v2 v3 : Value) (R : Cr) (x : St) (a : Ac) (w : World) (hx : StOk x) (hz : crB R = true) (hv : CrAt w.heap.size w v1 v2 v3 R) :
  Calls Tryz.prog 61 #[.agg (cCr v1 v2 v3 R).toArray, .agg (cSt x).toArray, .agg (cAc a).toArray] w fun e w' => e = .returned (.tuple #[.agg (cSt (acS R x a)).toArray, .int .i64 (acE R x a)]) ∧ Below w.heap.size w w' := by
 obtain ⟨hb1, _, hb3, _, _⟩ := crB_ok hz
 have CD := fun (W : World) (h : Below w.heap.size w W) => rDense_any v1 v2 v3 R a.lo a.hi W hb1 (by omega) (by omega) (by omega) (hv.next h)
 obtain ⟨dl, dh, hl, hh, sl, sh, tl, th, bg, se⟩ := x
 obtain ⟨k, lo, hi, m⟩ := a
 obtain ⟨xs, ys, bl, bh, ps⟩ := R
 obtain ⟨ht, hs⟩ := hx
 dsimp only [cCr, cSt, cAc] at *
 have fin : ∀ (x' : St) (E : Int), acE ⟨xs, ys, bl, bh, ps⟩ ⟨dl, dh, hl, hh, sl, sh, tl, th, bg, se⟩ ⟨k, lo, hi, m⟩ = E → acS ⟨xs, ys, bl, bh, ps⟩ ⟨dl, dh, hl, hh, sl, sh, tl, th, bg, se⟩ ⟨k, lo, hi, m⟩ = x' →
   Calls Tryz.prog 61 #[.agg #[v1, v2, .int .i64 bl, .int .i64 bh, v3], .agg #[.int .i64 dl, .int .i64 dh, .int .i64 hl, .int .i64 hh, .int .i64 sl, .int .i64 sh, .int .i64 tl, .int .i64 th, .bool bg, .int .i64 se], .agg #[.int .i64 k, .int .i64 lo, .int .i64 hi, .int .i64 m]] w (fun e w' => e = .returned (.tuple #[.agg (cSt x').toArray, .int .i64 E]) ∧ Below w.heap.size w w') →
   Calls Tryz.prog 61 #[.agg #[v1, v2, .int .i64 bl, .int .i64 bh, v3], .agg #[.int .i64 dl, .int .i64 dh, .int .i64 hl, .int .i64 hh, .int .i64 sl, .int .i64 sh, .int .i64 tl, .int .i64 th, .bool bg, .int .i64 se], .agg #[.int .i64 k, .int .i64 lo, .int .i64 hi, .int .i64 m]] w (fun e w' => e = .returned (.tuple #[.agg (cSt (acS ⟨xs, ys, bl, bh, ps⟩ ⟨dl, dh, hl, hh, sl, sh, tl, th, bg, se⟩ ⟨k, lo, hi, m⟩)).toArray, .int .i64 (acE ⟨xs, ys, bl, bh, ps⟩ ⟨dl, dh, hl, hh, sl, sh, tl, th, bg, se⟩ ⟨k, lo, hi, m⟩)]) ∧ Below w.heap.size w w') := by
  intro x' E e1 e2 h
  rw [e1, e2]
  exact h
 by_cases h1 : k = 1
 ·subst h1
  by_cases hm : m = 0
  ·subst hm
   cases bg
   ·by_cases he : dnE xs bl bh lo hi = 0
    ·rw [he] at CD
     exact fin ⟨max dl (dnR xs bl bh lo hi).1, max dh (dnR xs bl bh lo hi).2, lo, hi, sl, sh, tl, th, false, se⟩ 0 (by simp [acE, ckE, he]) (by simp [acS, ckS, ckE, he]) (rAct_1o v1 v2 v3 bl bh dl dh hl hh sl sh tl th se lo hi w _ _ CD)
    ·exact fin ⟨dl, dh, hl, hh, sl, sh, tl, th, false, se⟩ (dnE xs bl bh lo hi) (by simp [acE, ckE]) (by simp [acS, ckS, ckE, he]) (rAct_1e v1 v2 v3 bl bh dl dh hl hh sl sh tl th se lo hi w _ _ _ CD he)
   ·exact fin ⟨dl, dh, hl, hh, sl, sh, tl, th, true, se⟩ 9 (by simp [acE, ckE]) (by simp [acS, ckS, ckE]) (rAct_1b v1 v2 v3 bl bh dl dh hl hh sl sh tl th se lo hi w)
  ·exact fin ⟨dl, dh, hl, hh, sl, sh, tl, th, bg, se⟩ 2 (by simp [acE, hm]) (by simp [acS, hm]) (rAct_1m v1 v2 v3 bl bh dl dh hl hh sl sh tl th se lo hi m bg w hm)
 ·by_cases h2 : k = 2
  ·subst h2
   by_cases hm : m = 0
   ·subst hm
    cases hz : rgB (-2000) 2000 lo hi
    ·exact fin ⟨dl, dh, hl, hh, sl, sh, tl, th, bg, se⟩ 3 (by simp [acE, coE, hz]) (by simp [acS, coS, coE, hz]) (rAct_2r v1 v2 v3 bl bh dl dh hl hh sl sh tl th se lo hi bg w hz)
    ·by_cases a1 : lo ≤ hl
     ·by_cases a2 : hi ≤ hh
      ·exact fin ⟨dl, dh, lo, hi, sl, sh, tl, th, bg, se⟩ 0 (by simp [acE, coE, hz, a1, a2]) (by simp [acS, coS, coE, hz, a1, a2]) (rAct_2o v1 v2 v3 bl bh dl dh hl hh sl sh tl th se lo hi bg w hz a1 a2)
      ·exact fin ⟨dl, dh, hl, hh, sl, sh, tl, th, bg, se⟩ 3 (by simp [acE, coE, hz, a1, a2]) (by simp [acS, coS, coE, hz, a1, a2]) (rAct_2h v1 v2 v3 bl bh dl dh hl hh sl sh tl th se lo hi bg w hz a1 (by omega))
     ·exact fin ⟨dl, dh, hl, hh, sl, sh, tl, th, bg, se⟩ 3 (by simp [acE, coE, hz, a1]) (by simp [acS, coS, coE, hz, a1]) (rAct_2l v1 v2 v3 bl bh dl dh hl hh sl sh tl th se lo hi bg w hz (by omega))
   ·exact fin ⟨dl, dh, hl, hh, sl, sh, tl, th, bg, se⟩ 2 (by simp [acE, hm]) (by simp [acS, hm]) (rAct_2m v1 v2 v3 bl bh dl dh hl hh sl sh tl th se lo hi m bg w hm)
  ·by_cases h3 : k = 3
   ·subst h3
    by_cases hm : m = 0
    ·subst hm
     cases hz : rgB 0 1000 lo hi
     ·exact fin ⟨dl, dh, hl, hh, sl, sh, tl, th, bg, se⟩ 3 (by simp [acE, siE, hz]) (by simp [acS, siS, siE, hz]) (rAct_3r v1 v2 v3 bl bh dl dh hl hh sl sh tl th se lo hi bg w hz)
     ·by_cases a1 : 1000 < th + hi
      ·exact fin ⟨dl, dh, hl, hh, sl, sh, tl, th, bg, se⟩ 10 (by simp [acE, siE, hz, a1]) (by simp [acS, siS, siE, hz, a1]) (rAct_3f v1 v2 v3 bl bh dl dh hl hh sl sh tl th se lo hi bg w hz ht a1)
      ·cases bg
       ·exact fin ⟨dl, dh, hl, hh, hl, hh, tl + lo, th + hi, true, se⟩ 0 (by simp [acE, siE, hz, a1]) (by simp [acS, siS, siE, hz, a1]) (rAct_3n v1 v2 v3 bl bh dl dh hl hh sl sh tl th se lo hi w hz ht (by omega))
       ·exact fin ⟨dl, dh, hl, hh, sl, sh, tl + lo, th + hi, true, se⟩ 0 (by simp [acE, siE, hz, a1]) (by simp [acS, siS, siE, hz, a1]) (rAct_3o v1 v2 v3 bl bh dl dh hl hh sl sh tl th se lo hi w hz ht (by omega))
    ·exact fin ⟨dl, dh, hl, hh, sl, sh, tl, th, bg, se⟩ 2 (by simp [acE, hm]) (by simp [acS, hm]) (rAct_3m v1 v2 v3 bl bh dl dh hl hh sl sh tl th se lo hi m bg w hm)
   ·by_cases h4 : k = 4
    ·subst h4
     by_cases b1 : lo = 0
     ·subst b1
      by_cases b2 : hi = 0
      ·subst b2
       have hin : inB 0 1000000 m = (decide (0 ≤ m) && decide (m ≤ 1000000)) := rfl
       cases hz : (decide (0 ≤ m) && decide (m ≤ 1000000))
       ·exact fin ⟨dl, dh, hl, hh, sl, sh, tl, th, bg, se⟩ 3 (by simp [acE, seE, hin, hz]) (by simp [acS, seS, seE, hin, hz]) (rAct_4r v1 v2 v3 bl bh dl dh hl hh sl sh tl th se m bg w hz)
       ·by_cases a1 : 1000000 < se + m
        ·exact fin ⟨dl, dh, hl, hh, sl, sh, tl, th, bg, se⟩ 10 (by simp [acE, seE, hin, hz, a1]) (by simp [acS, seS, seE, hin, hz, a1]) (rAct_4f v1 v2 v3 bl bh dl dh hl hh sl sh tl th se m bg w hz hs a1)
        ·exact fin ⟨dl, dh, hl, hh, sl, sh, tl, th, bg, se + m⟩ 0 (by simp [acE, seE, hin, hz, a1]) (by simp [acS, seS, seE, hin, hz, a1]) (rAct_4o v1 v2 v3 bl bh dl dh hl hh sl sh tl th se m bg w hz hs (by omega))
      ·exact fin ⟨dl, dh, hl, hh, sl, sh, tl, th, bg, se⟩ 2 (by simp [acE, b2]) (by simp [acS, b2]) (rAct_4h v1 v2 v3 bl bh dl dh hl hh sl sh tl th se hi m bg w b2)
     ·exact fin ⟨dl, dh, hl, hh, sl, sh, tl, th, bg, se⟩ 2 (by simp [acE, b1]) (by simp [acS, b1]) (rAct_4l v1 v2 v3 bl bh dl dh hl hh sl sh tl th se lo hi m bg w b1)
    ·exact fin ⟨dl, dh, hl, hh, sl, sh, tl, th, bg, se⟩ 2 (by simp [acE, h1, h2, h3, h4]) (by simp [acS, h1, h2, h3, h4]) (rAct_no v1 v2 v3 bl bh dl dh hl hh sl sh tl th se k lo hi m bg w h1 h2 h3 h4)
end Go.Proofs.YtgklpbgdimkhaaaGreat
