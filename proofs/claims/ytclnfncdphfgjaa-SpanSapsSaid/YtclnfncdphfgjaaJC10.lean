/- Contracts: V7, U1, U3, joined. -/
import Derived.Test.YtclnfncdphfgjaaJC9
import Derived.Test.YtclnfncdphfgjaaProg
import Derived.Test.YtclnfncdphfgjaaJC7
namespace Go.Proofs.Ytclnfncdphfgjaa
open Go.RowKit Go.Lib Go.Shelf
set_option linter.unusedVariables false
set_option linter.unusedSimpArgs false
attribute [local go_sem ↓] Go.wp_at_zero Go.wp_at_succ


set_option maxHeartbeats 400000 in
theorem rDraw_bad (a s m : Int) (c0 : Hid (∀ w : World, Calls Try.prog 59 #[.agg #[.int .i64 a, .int .i64 s]] w fun e w' => e = .returned (.bool false) ∧ Below w.heap.size w w')) (w : World) :
    Calls Try.prog 20 #[.agg #[.int .i64 a, .int .i64 s], .int .i64 m] w fun e w' => e = .returned (.tuple #[.agg #[.int .i64 0, .int .i64 0], .agg #[.int .i64 0, .int .i64 0], .int .i64 2]) ∧ Below w.heap.size w w' := by
  go_enter Try.func20, Try.ntmps20
  go_wp2_with fail
  refine (c0.out _).mono ?_
  rintro e W1 ⟨rfl, hb⟩
  have X0 := cell_next hb (b := w.heap.size) (o := 0) (by simp <;> omega) (v := some (.int .i64 a)) (by simp [go_sem])
  have X1 := cell_next hb (b := w.heap.size) (o := 1) (by simp <;> omega) (v := some (.int .i64 s)) (by simp [go_sem])
  have nX : w.heap.size < W1.heap.size := by have := hb.size; simp at this; omega
  have D0 := cell_next hb (b := w.heap.size + 1) (o := 0) (by simp <;> omega) (v := some (.int .i64 0)) (by simp [go_sem])
  have fD0 := frozen_next hb (b := w.heap.size + 1) (o := 0) (by simp <;> omega) (v := false) (by simp [go_sem])
  have D1 := cell_next hb (b := w.heap.size + 1) (o := 1) (by simp <;> omega) (v := some (.int .i64 0)) (by simp [go_sem])
  have fD1 := frozen_next hb (b := w.heap.size + 1) (o := 1) (by simp <;> omega) (v := false) (by simp [go_sem])
  have nD : w.heap.size + 1 < W1.heap.size := by have := hb.size; simp at this; omega
  have L0 := cell_next hb (b := w.heap.size + 1 + 1) (o := 0) (by simp <;> omega) (v := some (.int .i64 0)) (by simp [go_sem])
  have fL0 := frozen_next hb (b := w.heap.size + 1 + 1) (o := 0) (by simp <;> omega) (v := false) (by simp [go_sem])
  have L1 := cell_next hb (b := w.heap.size + 1 + 1) (o := 1) (by simp <;> omega) (v := some (.int .i64 0)) (by simp [go_sem])
  have fL1 := frozen_next hb (b := w.heap.size + 1 + 1) (o := 1) (by simp <;> omega) (v := false) (by simp [go_sem])
  have nL : w.heap.size + 1 + 1 < W1.heap.size := by have := hb.size; simp at this; omega
  have hB := (below3 hb)
  clear hb
  go_wp2_with fail
  refine bodyPost_ret (v := .tuple #[.agg #[.int .i64 0, .int .i64 0], .agg #[.int .i64 0, .int .i64 0], .int .i64 2]) (by simp [results, Try.results20, go_sem, *]) rfl ⟨rfl, ?_⟩
  repeat (first | with_reducible exact hB | with_reducible refine Below.drew ?_ | (with_reducible refine Below.setCell ?_ ?hp _; case hp => simp <;> omega))

set_option maxHeartbeats 400000 in
theorem rDraw_out (a s m : Int) (hA : 0 ≤ a ∧ a ≤ 1000000000000) (hS : 0 ≤ s ∧ s ≤ 1000000000000) (c0 : Hid (∀ w : World, Calls Try.prog 59 #[.agg #[.int .i64 a, .int .i64 s]] w fun e w' => e = .returned (.bool true) ∧ Below w.heap.size w w'))
    (c1 : Hid (∀ w : World, Calls Try.prog 62 #[.int .i64 m, .int .i64 0, .int .i64 (a + s)] w fun e w' => e = .returned (.bool false) ∧ Below w.heap.size w w')) (w : World) :
    Calls Try.prog 20 #[.agg #[.int .i64 a, .int .i64 s], .int .i64 m] w fun e w' => e = .returned (.tuple #[.agg #[.int .i64 0, .int .i64 0], .agg #[.int .i64 0, .int .i64 0], .int .i64 3]) ∧ Below w.heap.size w w' := by
  obtain ⟨hA0, hA1⟩ := hA
  obtain ⟨hS0, hS1⟩ := hS
  go_enter Try.func20, Try.ntmps20
  go_wp2_with fail
  refine (c0.out _).mono ?_
  rintro e W1 ⟨rfl, hb⟩
  have X0 := cell_next hb (b := w.heap.size) (o := 0) (by simp <;> omega) (v := some (.int .i64 a)) (by simp [go_sem])
  have X1 := cell_next hb (b := w.heap.size) (o := 1) (by simp <;> omega) (v := some (.int .i64 s)) (by simp [go_sem])
  have nX : w.heap.size < W1.heap.size := by have := hb.size; simp at this; omega
  have D0 := cell_next hb (b := w.heap.size + 1) (o := 0) (by simp <;> omega) (v := some (.int .i64 0)) (by simp [go_sem])
  have fD0 := frozen_next hb (b := w.heap.size + 1) (o := 0) (by simp <;> omega) (v := false) (by simp [go_sem])
  have D1 := cell_next hb (b := w.heap.size + 1) (o := 1) (by simp <;> omega) (v := some (.int .i64 0)) (by simp [go_sem])
  have fD1 := frozen_next hb (b := w.heap.size + 1) (o := 1) (by simp <;> omega) (v := false) (by simp [go_sem])
  have nD : w.heap.size + 1 < W1.heap.size := by have := hb.size; simp at this; omega
  have L0 := cell_next hb (b := w.heap.size + 1 + 1) (o := 0) (by simp <;> omega) (v := some (.int .i64 0)) (by simp [go_sem])
  have fL0 := frozen_next hb (b := w.heap.size + 1 + 1) (o := 0) (by simp <;> omega) (v := false) (by simp [go_sem])
  have L1 := cell_next hb (b := w.heap.size + 1 + 1) (o := 1) (by simp <;> omega) (v := some (.int .i64 0)) (by simp [go_sem])
  have fL1 := frozen_next hb (b := w.heap.size + 1 + 1) (o := 1) (by simp <;> omega) (v := false) (by simp [go_sem])
  have nL : w.heap.size + 1 + 1 < W1.heap.size := by have := hb.size; simp at this; omega
  have hB := (below3 hb)
  clear hb
  have wt : IntKind.i64.wrap (a + s) = a + s := IntWalk.i64_in _ (by omega)
  go_wp2_with fail
  refine (c1.out _).mono ?_
  rintro e W2 ⟨rfl, hb⟩
  replace X0 := cell_next hb nX X0
  replace X1 := cell_next hb nX X1
  replace nX := Nat.lt_of_lt_of_le nX hb.size
  replace D0 := cell_next hb nD D0
  replace fD0 := frozen_next hb nD fD0
  replace D1 := cell_next hb nD D1
  replace fD1 := frozen_next hb nD fD1
  replace nD := Nat.lt_of_lt_of_le nD hb.size
  replace L0 := cell_next hb nL L0
  replace fL0 := frozen_next hb nL fL0
  replace L1 := cell_next hb nL L1
  replace fL1 := frozen_next hb nL fL1
  replace nL := Nat.lt_of_lt_of_le nL hb.size
  replace hB := hB.trans (hb.mono hB.size)
  clear hb
  go_wp2_with fail
  refine bodyPost_ret (v := .tuple #[.agg #[.int .i64 0, .int .i64 0], .agg #[.int .i64 0, .int .i64 0], .int .i64 3]) (by simp [results, Try.results20, go_sem, *]) rfl ⟨rfl, ?_⟩
  repeat (first | with_reducible exact hB | with_reducible refine Below.drew ?_ | (with_reducible refine Below.setCell ?_ ?hp _; case hp => simp <;> omega))

set_option maxRecDepth 20000 in
set_option maxHeartbeats 1000000 in
theorem rDraw_good (a s m d u l r : Int) (hA : 0 ≤ a ∧ a ≤ 1000000000000) (hS : 0 ≤ s ∧ s ≤ 1000000000000) (c0 : Hid (∀ w : World, Calls Try.prog 59 #[.agg #[.int .i64 a, .int .i64 s]] w fun e w' => e = .returned (.bool true) ∧ Below w.heap.size w w'))
    (c1 : Hid (∀ w : World, Calls Try.prog 62 #[.int .i64 m, .int .i64 0, .int .i64 (a + s)] w fun e w' => e = .returned (.bool true) ∧ Below w.heap.size w w'))
    (c2 : Hid (∀ w : World, Calls Try.prog 63 #[.agg #[.int .i64 a, .int .i64 s], .int .i64 m] w fun e w' => e = .returned (.tuple #[.agg #[.int .i64 d, .int .i64 u], .agg #[.int .i64 l, .int .i64 r]]) ∧ Below w.heap.size w w')) (w : World) :
    Calls Try.prog 20 #[.agg #[.int .i64 a, .int .i64 s], .int .i64 m] w fun e w' => e = .returned (.tuple #[.agg #[.int .i64 d, .int .i64 u], .agg #[.int .i64 l, .int .i64 r], .int .i64 0]) ∧ Below w.heap.size w w' := by
  obtain ⟨hA0, hA1⟩ := hA
  obtain ⟨hS0, hS1⟩ := hS
  go_enter Try.func20, Try.ntmps20
  go_wp2_with fail
  refine (c0.out _).mono ?_
  rintro e W1 ⟨rfl, hb⟩
  have X0 := cell_next hb (b := w.heap.size) (o := 0) (by simp <;> omega) (v := some (.int .i64 a)) (by simp [go_sem])
  have X1 := cell_next hb (b := w.heap.size) (o := 1) (by simp <;> omega) (v := some (.int .i64 s)) (by simp [go_sem])
  have nX : w.heap.size < W1.heap.size := by have := hb.size; simp at this; omega
  have D0 := cell_next hb (b := w.heap.size + 1) (o := 0) (by simp <;> omega) (v := some (.int .i64 0)) (by simp [go_sem])
  have fD0 := frozen_next hb (b := w.heap.size + 1) (o := 0) (by simp <;> omega) (v := false) (by simp [go_sem])
  have D1 := cell_next hb (b := w.heap.size + 1) (o := 1) (by simp <;> omega) (v := some (.int .i64 0)) (by simp [go_sem])
  have fD1 := frozen_next hb (b := w.heap.size + 1) (o := 1) (by simp <;> omega) (v := false) (by simp [go_sem])
  have nD : w.heap.size + 1 < W1.heap.size := by have := hb.size; simp at this; omega
  have L0 := cell_next hb (b := w.heap.size + 1 + 1) (o := 0) (by simp <;> omega) (v := some (.int .i64 0)) (by simp [go_sem])
  have fL0 := frozen_next hb (b := w.heap.size + 1 + 1) (o := 0) (by simp <;> omega) (v := false) (by simp [go_sem])
  have L1 := cell_next hb (b := w.heap.size + 1 + 1) (o := 1) (by simp <;> omega) (v := some (.int .i64 0)) (by simp [go_sem])
  have fL1 := frozen_next hb (b := w.heap.size + 1 + 1) (o := 1) (by simp <;> omega) (v := false) (by simp [go_sem])
  have nL : w.heap.size + 1 + 1 < W1.heap.size := by have := hb.size; simp at this; omega
  have hB := (below3 hb)
  clear hb
  have wt : IntKind.i64.wrap (a + s) = a + s := IntWalk.i64_in _ (by omega)
  go_wp2_with fail
  refine (c1.out _).mono ?_
  rintro e W2 ⟨rfl, hb⟩
  replace X0 := cell_next hb nX X0
  replace X1 := cell_next hb nX X1
  replace nX := Nat.lt_of_lt_of_le nX hb.size
  replace D0 := cell_next hb nD D0
  replace fD0 := frozen_next hb nD fD0
  replace D1 := cell_next hb nD D1
  replace fD1 := frozen_next hb nD fD1
  replace nD := Nat.lt_of_lt_of_le nD hb.size
  replace L0 := cell_next hb nL L0
  replace fL0 := frozen_next hb nL fL0
  replace L1 := cell_next hb nL L1
  replace fL1 := frozen_next hb nL fL1
  replace nL := Nat.lt_of_lt_of_le nL hb.size
  replace hB := hB.trans (hb.mono hB.size)
  clear hb
  go_wp2_with fail
  refine (c2.out _).mono ?_
  rintro e W3 ⟨rfl, hb⟩
  replace X0 := cell_next hb nX X0
  replace X1 := cell_next hb nX X1
  replace nX := Nat.lt_of_lt_of_le nX hb.size
  replace D0 := cell_next hb nD D0
  replace fD0 := frozen_next hb nD fD0
  replace D1 := cell_next hb nD D1
  replace fD1 := frozen_next hb nD fD1
  replace nD := Nat.lt_of_lt_of_le nD hb.size
  replace L0 := cell_next hb nL L0
  replace fL0 := frozen_next hb nL fL0
  replace L1 := cell_next hb nL L1
  replace fL1 := frozen_next hb nL fL1
  replace nL := Nat.lt_of_lt_of_le nL hb.size
  replace hB := hB.trans (hb.mono hB.size)
  clear hb
  have ordL := nL
  go_wp2_with fail
  have hb : Below W3.heap.size W3 ((W3.alloc (Obj.cells #[.int .i64 d, .int .i64 u] 28)).alloc (Obj.cells #[.int .i64 l, .int .i64 r] 28)) := (((Below.refl _ _).alloc (Nat.le_refl _) _).alloc (by simp <;> omega) _)
  replace X0 := cell_next hb nX X0
  replace X1 := cell_next hb nX X1
  replace nX := Nat.lt_of_lt_of_le nX hb.size
  replace D0 := cell_next hb nD D0
  replace fD0 := frozen_next hb nD fD0
  replace D1 := cell_next hb nD D1
  replace fD1 := frozen_next hb nD fD1
  replace nD := Nat.lt_of_lt_of_le nD hb.size
  replace L0 := cell_next hb nL L0
  replace fL0 := frozen_next hb nL fL0
  replace L1 := cell_next hb nL L1
  replace fL1 := frozen_next hb nL fL1
  replace nL := Nat.lt_of_lt_of_le nL hb.size
  have P0 : ((W3.alloc (Obj.cells #[.int .i64 d, .int .i64 u] 28)).alloc (Obj.cells #[.int .i64 l, .int .i64 r] 28)).cell? ⟨W3.heap.size, 0, none⟩ = some (.int .i64 d) := by simp [go_sem]
  have P1 : ((W3.alloc (Obj.cells #[.int .i64 d, .int .i64 u] 28)).alloc (Obj.cells #[.int .i64 l, .int .i64 r] 28)).cell? ⟨W3.heap.size, 1, none⟩ = some (.int .i64 u) := by simp [go_sem]
  have nP : W3.heap.size < ((W3.alloc (Obj.cells #[.int .i64 d, .int .i64 u] 28)).alloc (Obj.cells #[.int .i64 l, .int .i64 r] 28)).heap.size := by simp <;> omega
  have Q0 : ((W3.alloc (Obj.cells #[.int .i64 d, .int .i64 u] 28)).alloc (Obj.cells #[.int .i64 l, .int .i64 r] 28)).cell? ⟨W3.heap.size + 1, 0, none⟩ = some (.int .i64 l) := by simp [go_sem]
  have Q1 : ((W3.alloc (Obj.cells #[.int .i64 d, .int .i64 u] 28)).alloc (Obj.cells #[.int .i64 l, .int .i64 r] 28)).cell? ⟨W3.heap.size + 1, 1, none⟩ = some (.int .i64 r) := by simp [go_sem]
  have nQ : W3.heap.size + 1 < ((W3.alloc (Obj.cells #[.int .i64 d, .int .i64 u] 28)).alloc (Obj.cells #[.int .i64 l, .int .i64 r] 28)).heap.size := by simp <;> omega
  replace hB := hB.trans (hb.mono hB.size)
  clear hb
  generalize ((W3.alloc (Obj.cells #[.int .i64 d, .int .i64 u] 28)).alloc (Obj.cells #[.int .i64 l, .int .i64 r] 28)) = W4 at *
  generalize W3.heap.size = q4 at *
  have hBW : w.heap.size ≤ W4.heap.size := hB.size
  refine wp_region_held_drew (S := fun w' => w'.cell? ⟨q4, 0, none⟩ = some (.int .i64 d) ∧ w'.cell? ⟨q4, 1, none⟩ = some (.int .i64 u) ∧ w'.cell? ⟨q4 + 1, 0, none⟩ = some (.int .i64 l) ∧ w'.cell? ⟨q4 + 1, 1, none⟩ = some (.int .i64 r) ∧ True) (by kernel_rfl) ?_ (fun hHeld => ?_)
  focus (exact ⟨P0, P1, Q0, Q1, trivial⟩)
  have hL : Below w.heap.size W4 W4.drew := Below.drew (Below.refl _ _)
  replace X0 : W4.drew.cell? ⟨w.heap.size, 0, none⟩ = some (.int .i64 a) := X0
  replace X1 : W4.drew.cell? ⟨w.heap.size, 1, none⟩ = some (.int .i64 s) := X1
  replace D0 : W4.drew.cell? ⟨w.heap.size + 1, 0, none⟩ = some (.int .i64 0) := D0
  replace fD0 : W4.drew.frozen? ⟨w.heap.size + 1, 0, none⟩ = false := fD0
  replace D1 : W4.drew.cell? ⟨w.heap.size + 1, 1, none⟩ = some (.int .i64 0) := D1
  replace fD1 : W4.drew.frozen? ⟨w.heap.size + 1, 1, none⟩ = false := fD1
  replace L0 : W4.drew.cell? ⟨w.heap.size + 1 + 1, 0, none⟩ = some (.int .i64 0) := L0
  replace fL0 : W4.drew.frozen? ⟨w.heap.size + 1 + 1, 0, none⟩ = false := fL0
  replace L1 : W4.drew.cell? ⟨w.heap.size + 1 + 1, 1, none⟩ = some (.int .i64 0) := L1
  replace fL1 : W4.drew.frozen? ⟨w.heap.size + 1 + 1, 1, none⟩ = false := fL1
  replace P0 : W4.drew.cell? ⟨q4, 0, none⟩ = some (.int .i64 d) := P0
  replace P1 : W4.drew.cell? ⟨q4, 1, none⟩ = some (.int .i64 u) := P1
  replace Q0 : W4.drew.cell? ⟨q4 + 1, 0, none⟩ = some (.int .i64 l) := Q0
  replace Q1 : W4.drew.cell? ⟨q4 + 1, 1, none⟩ = some (.int .i64 r) := Q1
  replace nX : w.heap.size < W4.drew.heap.size := nX
  replace nD : w.heap.size + 1 < W4.drew.heap.size := nD
  replace nL : w.heap.size + 1 + 1 < W4.drew.heap.size := nL
  replace nP : q4 < W4.drew.heap.size := nP
  replace nQ : q4 + 1 < W4.drew.heap.size := nQ
  generalize hWd : W4.drew = wd5 at hHeld hL X0 X1 D0 fD0 D1 fD1 L0 fL0 L1 fL1 P0 P1 Q0 Q1 nX nD nL nP nQ  ⊢
  clear hWd
  refine take_slot (i := 0) (d := 30) (v := ?_) rfl rfl (by kernel_rfl) (by kernel_rfl) (by kernel_rfl) (fun _ _ _ h => h) (Or.inl ⟨by rfl, ?_⟩) (by assumption) ?_
  rotate_left 1
  focus (intro wS hSw; (try dsimp only at hSw); go_simp; try with_reducible rfl)
  try simp only [List.setIfInBounds_toArray, List.set_cons_zero, List.set_cons_succ]
  refine take_slot (i := 1) (d := 31) (v := ?_) rfl rfl (by kernel_rfl) (by kernel_rfl) (by kernel_rfl) (fun _ _ _ h => h) (Or.inl ⟨by rfl, ?_⟩) (by assumption) ?_
  rotate_left 1
  focus (intro wS hSw; (try dsimp only at hSw); go_simp; try with_reducible rfl)
  try simp only [List.setIfInBounds_toArray, List.set_cons_zero, List.set_cons_succ]
  refine wpAnyH_ready (rs := [2]) (by kernel_rfl) (by simp) ?_
  refine AllReadyH.cons rfl (fun K hK => ?_) AllReadyH.nil
  go_simp
  replace X0 : ((wd5.setCell ⟨w.heap.size + 1, 0, none⟩ (.int .i64 d)).setCell ⟨w.heap.size + 1, 1, none⟩ (.int .i64 u)).cell? ⟨w.heap.size, 0, none⟩ = some (.int .i64 a) := ((World.cell?_setCell_other _ _ _ _ (by intro e; injection e with e1 e2; omega)).trans ((World.cell?_setCell_other _ _ _ _ (by intro e; injection e with e1 e2; omega)).trans X0))
  replace X1 : ((wd5.setCell ⟨w.heap.size + 1, 0, none⟩ (.int .i64 d)).setCell ⟨w.heap.size + 1, 1, none⟩ (.int .i64 u)).cell? ⟨w.heap.size, 1, none⟩ = some (.int .i64 s) := ((World.cell?_setCell_other _ _ _ _ (by intro e; injection e with e1 e2; omega)).trans ((World.cell?_setCell_other _ _ _ _ (by intro e; injection e with e1 e2; omega)).trans X1))
  replace D0 : ((wd5.setCell ⟨w.heap.size + 1, 0, none⟩ (.int .i64 d)).setCell ⟨w.heap.size + 1, 1, none⟩ (.int .i64 u)).cell? ⟨w.heap.size + 1, 0, none⟩ = some (.int .i64 d) := by simp [go_sem, D0]
  replace fD0 : ((wd5.setCell ⟨w.heap.size + 1, 0, none⟩ (.int .i64 d)).setCell ⟨w.heap.size + 1, 1, none⟩ (.int .i64 u)).frozen? ⟨w.heap.size + 1, 0, none⟩ = false := by simp [go_sem, fD0]
  replace D1 : ((wd5.setCell ⟨w.heap.size + 1, 0, none⟩ (.int .i64 d)).setCell ⟨w.heap.size + 1, 1, none⟩ (.int .i64 u)).cell? ⟨w.heap.size + 1, 1, none⟩ = some (.int .i64 u) := by simp [go_sem, D1]
  replace fD1 : ((wd5.setCell ⟨w.heap.size + 1, 0, none⟩ (.int .i64 d)).setCell ⟨w.heap.size + 1, 1, none⟩ (.int .i64 u)).frozen? ⟨w.heap.size + 1, 1, none⟩ = false := by simp [go_sem, fD1]
  replace L0 : ((wd5.setCell ⟨w.heap.size + 1, 0, none⟩ (.int .i64 d)).setCell ⟨w.heap.size + 1, 1, none⟩ (.int .i64 u)).cell? ⟨w.heap.size + 1 + 1, 0, none⟩ = some (.int .i64 0) := ((World.cell?_setCell_other _ _ _ _ (by intro e; injection e with e1 e2; omega)).trans ((World.cell?_setCell_other _ _ _ _ (by intro e; injection e with e1 e2; omega)).trans L0))
  replace fL0 : ((wd5.setCell ⟨w.heap.size + 1, 0, none⟩ (.int .i64 d)).setCell ⟨w.heap.size + 1, 1, none⟩ (.int .i64 u)).frozen? ⟨w.heap.size + 1 + 1, 0, none⟩ = false := by simp [go_sem, fL0]
  replace L1 : ((wd5.setCell ⟨w.heap.size + 1, 0, none⟩ (.int .i64 d)).setCell ⟨w.heap.size + 1, 1, none⟩ (.int .i64 u)).cell? ⟨w.heap.size + 1 + 1, 1, none⟩ = some (.int .i64 0) := ((World.cell?_setCell_other _ _ _ _ (by intro e; injection e with e1 e2; omega)).trans ((World.cell?_setCell_other _ _ _ _ (by intro e; injection e with e1 e2; omega)).trans L1))
  replace fL1 : ((wd5.setCell ⟨w.heap.size + 1, 0, none⟩ (.int .i64 d)).setCell ⟨w.heap.size + 1, 1, none⟩ (.int .i64 u)).frozen? ⟨w.heap.size + 1 + 1, 1, none⟩ = false := by simp [go_sem, fL1]
  replace P0 : ((wd5.setCell ⟨w.heap.size + 1, 0, none⟩ (.int .i64 d)).setCell ⟨w.heap.size + 1, 1, none⟩ (.int .i64 u)).cell? ⟨q4, 0, none⟩ = some (.int .i64 d) := ((World.cell?_setCell_other _ _ _ _ (by intro e; injection e with e1 e2; omega)).trans ((World.cell?_setCell_other _ _ _ _ (by intro e; injection e with e1 e2; omega)).trans P0))
  replace P1 : ((wd5.setCell ⟨w.heap.size + 1, 0, none⟩ (.int .i64 d)).setCell ⟨w.heap.size + 1, 1, none⟩ (.int .i64 u)).cell? ⟨q4, 1, none⟩ = some (.int .i64 u) := ((World.cell?_setCell_other _ _ _ _ (by intro e; injection e with e1 e2; omega)).trans ((World.cell?_setCell_other _ _ _ _ (by intro e; injection e with e1 e2; omega)).trans P1))
  replace Q0 : ((wd5.setCell ⟨w.heap.size + 1, 0, none⟩ (.int .i64 d)).setCell ⟨w.heap.size + 1, 1, none⟩ (.int .i64 u)).cell? ⟨q4 + 1, 0, none⟩ = some (.int .i64 l) := ((World.cell?_setCell_other _ _ _ _ (by intro e; injection e with e1 e2; omega)).trans ((World.cell?_setCell_other _ _ _ _ (by intro e; injection e with e1 e2; omega)).trans Q0))
  replace Q1 : ((wd5.setCell ⟨w.heap.size + 1, 0, none⟩ (.int .i64 d)).setCell ⟨w.heap.size + 1, 1, none⟩ (.int .i64 u)).cell? ⟨q4 + 1, 1, none⟩ = some (.int .i64 r) := ((World.cell?_setCell_other _ _ _ _ (by intro e; injection e with e1 e2; omega)).trans ((World.cell?_setCell_other _ _ _ _ (by intro e; injection e with e1 e2; omega)).trans Q1))
  replace nX : w.heap.size < ((wd5.setCell ⟨w.heap.size + 1, 0, none⟩ (.int .i64 d)).setCell ⟨w.heap.size + 1, 1, none⟩ (.int .i64 u)).heap.size := by simpa [World.setCell] using nX
  replace nD : w.heap.size + 1 < ((wd5.setCell ⟨w.heap.size + 1, 0, none⟩ (.int .i64 d)).setCell ⟨w.heap.size + 1, 1, none⟩ (.int .i64 u)).heap.size := by simpa [World.setCell] using nD
  replace nL : w.heap.size + 1 + 1 < ((wd5.setCell ⟨w.heap.size + 1, 0, none⟩ (.int .i64 d)).setCell ⟨w.heap.size + 1, 1, none⟩ (.int .i64 u)).heap.size := by simpa [World.setCell] using nL
  replace nP : q4 < ((wd5.setCell ⟨w.heap.size + 1, 0, none⟩ (.int .i64 d)).setCell ⟨w.heap.size + 1, 1, none⟩ (.int .i64 u)).heap.size := by simpa [World.setCell] using nP
  replace nQ : q4 + 1 < ((wd5.setCell ⟨w.heap.size + 1, 0, none⟩ (.int .i64 d)).setCell ⟨w.heap.size + 1, 1, none⟩ (.int .i64 u)).heap.size := by simpa [World.setCell] using nQ
  replace hL := hL.setCell (p := ⟨w.heap.size + 1, 0, none⟩) (by show w.heap.size ≤ w.heap.size + 1; omega) (.int .i64 d)
  replace hL := hL.setCell (p := ⟨w.heap.size + 1, 1, none⟩) (by show w.heap.size ≤ w.heap.size + 1; omega) (.int .i64 u)
  refine hK.out _ _ ⟨P0, P1, Q0, Q1, trivial⟩ (fun hHeld => ?_)
  clear hK K
  try simp only [Act.put, List.setIfInBounds_toArray, List.set_cons_zero, List.set_cons_succ]
  refine wpAnyH_ready (rs := [3]) (by kernel_rfl) (by simp) ?_
  refine AllReadyH.cons rfl (fun K hK => ?_) AllReadyH.nil
  go_simp
  replace X0 : ((((wd5.setCell ⟨w.heap.size + 1, 0, none⟩ (.int .i64 d)).setCell ⟨w.heap.size + 1, 1, none⟩ (.int .i64 u)).setCell ⟨w.heap.size + 1 + 1, 0, none⟩ (.int .i64 l)).setCell ⟨w.heap.size + 1 + 1, 1, none⟩ (.int .i64 r)).cell? ⟨w.heap.size, 0, none⟩ = some (.int .i64 a) := ((World.cell?_setCell_other _ _ _ _ (by intro e; injection e with e1 e2; omega)).trans ((World.cell?_setCell_other _ _ _ _ (by intro e; injection e with e1 e2; omega)).trans X0))
  replace X1 : ((((wd5.setCell ⟨w.heap.size + 1, 0, none⟩ (.int .i64 d)).setCell ⟨w.heap.size + 1, 1, none⟩ (.int .i64 u)).setCell ⟨w.heap.size + 1 + 1, 0, none⟩ (.int .i64 l)).setCell ⟨w.heap.size + 1 + 1, 1, none⟩ (.int .i64 r)).cell? ⟨w.heap.size, 1, none⟩ = some (.int .i64 s) := ((World.cell?_setCell_other _ _ _ _ (by intro e; injection e with e1 e2; omega)).trans ((World.cell?_setCell_other _ _ _ _ (by intro e; injection e with e1 e2; omega)).trans X1))
  replace D0 : ((((wd5.setCell ⟨w.heap.size + 1, 0, none⟩ (.int .i64 d)).setCell ⟨w.heap.size + 1, 1, none⟩ (.int .i64 u)).setCell ⟨w.heap.size + 1 + 1, 0, none⟩ (.int .i64 l)).setCell ⟨w.heap.size + 1 + 1, 1, none⟩ (.int .i64 r)).cell? ⟨w.heap.size + 1, 0, none⟩ = some (.int .i64 d) := ((World.cell?_setCell_other _ _ _ _ (by intro e; injection e with e1 e2; omega)).trans ((World.cell?_setCell_other _ _ _ _ (by intro e; injection e with e1 e2; omega)).trans D0))
  replace fD0 : ((((wd5.setCell ⟨w.heap.size + 1, 0, none⟩ (.int .i64 d)).setCell ⟨w.heap.size + 1, 1, none⟩ (.int .i64 u)).setCell ⟨w.heap.size + 1 + 1, 0, none⟩ (.int .i64 l)).setCell ⟨w.heap.size + 1 + 1, 1, none⟩ (.int .i64 r)).frozen? ⟨w.heap.size + 1, 0, none⟩ = false := by simp [go_sem, fD0]
  replace D1 : ((((wd5.setCell ⟨w.heap.size + 1, 0, none⟩ (.int .i64 d)).setCell ⟨w.heap.size + 1, 1, none⟩ (.int .i64 u)).setCell ⟨w.heap.size + 1 + 1, 0, none⟩ (.int .i64 l)).setCell ⟨w.heap.size + 1 + 1, 1, none⟩ (.int .i64 r)).cell? ⟨w.heap.size + 1, 1, none⟩ = some (.int .i64 u) := ((World.cell?_setCell_other _ _ _ _ (by intro e; injection e with e1 e2; omega)).trans ((World.cell?_setCell_other _ _ _ _ (by intro e; injection e with e1 e2; omega)).trans D1))
  replace fD1 : ((((wd5.setCell ⟨w.heap.size + 1, 0, none⟩ (.int .i64 d)).setCell ⟨w.heap.size + 1, 1, none⟩ (.int .i64 u)).setCell ⟨w.heap.size + 1 + 1, 0, none⟩ (.int .i64 l)).setCell ⟨w.heap.size + 1 + 1, 1, none⟩ (.int .i64 r)).frozen? ⟨w.heap.size + 1, 1, none⟩ = false := by simp [go_sem, fD1]
  replace L0 : ((((wd5.setCell ⟨w.heap.size + 1, 0, none⟩ (.int .i64 d)).setCell ⟨w.heap.size + 1, 1, none⟩ (.int .i64 u)).setCell ⟨w.heap.size + 1 + 1, 0, none⟩ (.int .i64 l)).setCell ⟨w.heap.size + 1 + 1, 1, none⟩ (.int .i64 r)).cell? ⟨w.heap.size + 1 + 1, 0, none⟩ = some (.int .i64 l) := by simp [go_sem, L0]
  replace fL0 : ((((wd5.setCell ⟨w.heap.size + 1, 0, none⟩ (.int .i64 d)).setCell ⟨w.heap.size + 1, 1, none⟩ (.int .i64 u)).setCell ⟨w.heap.size + 1 + 1, 0, none⟩ (.int .i64 l)).setCell ⟨w.heap.size + 1 + 1, 1, none⟩ (.int .i64 r)).frozen? ⟨w.heap.size + 1 + 1, 0, none⟩ = false := by simp [go_sem, fL0]
  replace L1 : ((((wd5.setCell ⟨w.heap.size + 1, 0, none⟩ (.int .i64 d)).setCell ⟨w.heap.size + 1, 1, none⟩ (.int .i64 u)).setCell ⟨w.heap.size + 1 + 1, 0, none⟩ (.int .i64 l)).setCell ⟨w.heap.size + 1 + 1, 1, none⟩ (.int .i64 r)).cell? ⟨w.heap.size + 1 + 1, 1, none⟩ = some (.int .i64 r) := by simp [go_sem, L1]
  replace fL1 : ((((wd5.setCell ⟨w.heap.size + 1, 0, none⟩ (.int .i64 d)).setCell ⟨w.heap.size + 1, 1, none⟩ (.int .i64 u)).setCell ⟨w.heap.size + 1 + 1, 0, none⟩ (.int .i64 l)).setCell ⟨w.heap.size + 1 + 1, 1, none⟩ (.int .i64 r)).frozen? ⟨w.heap.size + 1 + 1, 1, none⟩ = false := by simp [go_sem, fL1]
  replace P0 : ((((wd5.setCell ⟨w.heap.size + 1, 0, none⟩ (.int .i64 d)).setCell ⟨w.heap.size + 1, 1, none⟩ (.int .i64 u)).setCell ⟨w.heap.size + 1 + 1, 0, none⟩ (.int .i64 l)).setCell ⟨w.heap.size + 1 + 1, 1, none⟩ (.int .i64 r)).cell? ⟨q4, 0, none⟩ = some (.int .i64 d) := ((World.cell?_setCell_other _ _ _ _ (by intro e; injection e with e1 e2; omega)).trans ((World.cell?_setCell_other _ _ _ _ (by intro e; injection e with e1 e2; omega)).trans P0))
  replace P1 : ((((wd5.setCell ⟨w.heap.size + 1, 0, none⟩ (.int .i64 d)).setCell ⟨w.heap.size + 1, 1, none⟩ (.int .i64 u)).setCell ⟨w.heap.size + 1 + 1, 0, none⟩ (.int .i64 l)).setCell ⟨w.heap.size + 1 + 1, 1, none⟩ (.int .i64 r)).cell? ⟨q4, 1, none⟩ = some (.int .i64 u) := ((World.cell?_setCell_other _ _ _ _ (by intro e; injection e with e1 e2; omega)).trans ((World.cell?_setCell_other _ _ _ _ (by intro e; injection e with e1 e2; omega)).trans P1))
  replace Q0 : ((((wd5.setCell ⟨w.heap.size + 1, 0, none⟩ (.int .i64 d)).setCell ⟨w.heap.size + 1, 1, none⟩ (.int .i64 u)).setCell ⟨w.heap.size + 1 + 1, 0, none⟩ (.int .i64 l)).setCell ⟨w.heap.size + 1 + 1, 1, none⟩ (.int .i64 r)).cell? ⟨q4 + 1, 0, none⟩ = some (.int .i64 l) := ((World.cell?_setCell_other _ _ _ _ (by intro e; injection e with e1 e2; omega)).trans ((World.cell?_setCell_other _ _ _ _ (by intro e; injection e with e1 e2; omega)).trans Q0))
  replace Q1 : ((((wd5.setCell ⟨w.heap.size + 1, 0, none⟩ (.int .i64 d)).setCell ⟨w.heap.size + 1, 1, none⟩ (.int .i64 u)).setCell ⟨w.heap.size + 1 + 1, 0, none⟩ (.int .i64 l)).setCell ⟨w.heap.size + 1 + 1, 1, none⟩ (.int .i64 r)).cell? ⟨q4 + 1, 1, none⟩ = some (.int .i64 r) := ((World.cell?_setCell_other _ _ _ _ (by intro e; injection e with e1 e2; omega)).trans ((World.cell?_setCell_other _ _ _ _ (by intro e; injection e with e1 e2; omega)).trans Q1))
  replace nX : w.heap.size < ((((wd5.setCell ⟨w.heap.size + 1, 0, none⟩ (.int .i64 d)).setCell ⟨w.heap.size + 1, 1, none⟩ (.int .i64 u)).setCell ⟨w.heap.size + 1 + 1, 0, none⟩ (.int .i64 l)).setCell ⟨w.heap.size + 1 + 1, 1, none⟩ (.int .i64 r)).heap.size := by simpa [World.setCell] using nX
  replace nD : w.heap.size + 1 < ((((wd5.setCell ⟨w.heap.size + 1, 0, none⟩ (.int .i64 d)).setCell ⟨w.heap.size + 1, 1, none⟩ (.int .i64 u)).setCell ⟨w.heap.size + 1 + 1, 0, none⟩ (.int .i64 l)).setCell ⟨w.heap.size + 1 + 1, 1, none⟩ (.int .i64 r)).heap.size := by simpa [World.setCell] using nD
  replace nL : w.heap.size + 1 + 1 < ((((wd5.setCell ⟨w.heap.size + 1, 0, none⟩ (.int .i64 d)).setCell ⟨w.heap.size + 1, 1, none⟩ (.int .i64 u)).setCell ⟨w.heap.size + 1 + 1, 0, none⟩ (.int .i64 l)).setCell ⟨w.heap.size + 1 + 1, 1, none⟩ (.int .i64 r)).heap.size := by simpa [World.setCell] using nL
  replace nP : q4 < ((((wd5.setCell ⟨w.heap.size + 1, 0, none⟩ (.int .i64 d)).setCell ⟨w.heap.size + 1, 1, none⟩ (.int .i64 u)).setCell ⟨w.heap.size + 1 + 1, 0, none⟩ (.int .i64 l)).setCell ⟨w.heap.size + 1 + 1, 1, none⟩ (.int .i64 r)).heap.size := by simpa [World.setCell] using nP
  replace nQ : q4 + 1 < ((((wd5.setCell ⟨w.heap.size + 1, 0, none⟩ (.int .i64 d)).setCell ⟨w.heap.size + 1, 1, none⟩ (.int .i64 u)).setCell ⟨w.heap.size + 1 + 1, 0, none⟩ (.int .i64 l)).setCell ⟨w.heap.size + 1 + 1, 1, none⟩ (.int .i64 r)).heap.size := by simpa [World.setCell] using nQ
  replace hL := hL.setCell (p := ⟨w.heap.size + 1 + 1, 0, none⟩) (by show w.heap.size ≤ w.heap.size + 1 + 1; omega) (.int .i64 l)
  replace hL := hL.setCell (p := ⟨w.heap.size + 1 + 1, 1, none⟩) (by show w.heap.size ≤ w.heap.size + 1 + 1; omega) (.int .i64 r)
  refine hK.out _ _ ⟨P0, P1, Q0, Q1, trivial⟩ (fun hHeld => ?_)
  clear hK K
  try simp only [Act.put, List.setIfInBounds_toArray, List.set_cons_zero, List.set_cons_succ]
  refine take_slot (i := 4) (d := 6) (v := ?_) rfl rfl (by kernel_rfl) (by kernel_rfl) (by kernel_rfl) (fun _ _ _ h => h) (Or.inl ⟨by rfl, ?_⟩) (by assumption) ?_
  rotate_left 1
  focus (intro wS hSw; (try dsimp only at hSw); go_simp; try with_reducible rfl)
  try simp only [List.setIfInBounds_toArray, List.set_cons_zero, List.set_cons_succ]
  refine wpAnyH_done (by kernel_rfl) ?_ _
  replace hB := hB.trans hL
  clear hHeld hL hBW
  go_wp2_with fail
  refine bodyPost_ret (v := .tuple #[.agg #[.int .i64 d, .int .i64 u], .agg #[.int .i64 l, .int .i64 r], .int .i64 0]) (by simp [results, Try.results20, go_sem, *]) rfl ⟨rfl, ?_⟩
  repeat (first | with_reducible exact hB | with_reducible refine Below.drew ?_ | (with_reducible refine Below.setCell ?_ ?hp _; case hp => simp <;> omega))

theorem rDraw_all (a s m : Int) (w : World) : Calls Try.prog 20 #[.agg #[.int .i64 a, .int .i64 s], .int .i64 m] w fun e w' => e = .returned (vDr (drV a s m) (drE a s m)) ∧ Below w.heap.size w w' := by
  have c0 := Lib.hid (rSap_any a s)
  have c1 : Hid (∀ w : World, Calls Try.prog 62 #[.int .i64 m, .int .i64 0, .int .i64 (a + s)] w fun e w' => e = .returned (.bool (decide (0 ≤ m) && decide (m ≤ a + s))) ∧ Below w.heap.size w w') :=
    Lib.hid (fun w => (rIn_any m 0 (a + s) w).mono (fun e w' h => ⟨h.1, h.2 ▸ Below.refl _ _⟩))
  cases hv : spB a s with
  | false =>
    rw [hv] at c0
    rw [(drE_bad hv).1, (drE_bad hv).2]; exact rDraw_bad a s m c0 w
  | true =>
    rw [hv] at c0
    obtain ⟨a1, a2, s1, s2⟩ := spB_of hv
    by_cases hm : m < 0 ∨ a + s < m
    · rw [show (decide (0 ≤ m) && decide (m ≤ a + s)) = false from by rw [Bool.and_eq_false_iff, decide_eq_false_iff_not, decide_eq_false_iff_not]; omega] at c1
      rw [(drE_out hv hm).1, (drE_out hv hm).2]; exact rDraw_out a s m ⟨a1, a2⟩ ⟨s1, s2⟩ c0 c1 w
    · have h0 : 0 ≤ m := by omega
      have h1 : m ≤ a + s := by omega
      rw [show (decide (0 ≤ m) && decide (m ≤ a + s)) = true from by rw [Bool.and_eq_true, decide_eq_true_eq, decide_eq_true_eq]; omega] at c1
      rw [(drE_ok hv h0 h1).1, (drE_ok hv h0 h1).2]
      exact rDraw_good a s m _ _ _ _ ⟨a1, a2⟩ ⟨s1, s2⟩ c0 c1 (Lib.hid (fun w => rDrawn_any a s m hv h0 h1 w)) w

set_option linter.unusedVariables false

/-- the water that a round takes off -/
def offW (w t : Nat) : Nat := w * t / 10000
/-- the sugar that goes with it -/
def offS (w s t p : Nat) : Nat := s * p * offW w t / (w * 10000)
/-- what a round keeps -/
def stp (t p : Nat) (x : Nat × Nat) : Nat × Nat := (x.1 - offW x.1 t, x.2 - offS x.1 x.2 t p)
/-- what k rounds keep -/
def rk (t p : Nat) (x : Nat × Nat) : Nat → Nat × Nat
  | 0 => x
  | k + 1 => stp t p (rk t p x k)

theorem offW_le (w t : Nat) (ht : t ≤ 10000) : offW w t ≤ w := by
  unfold offW
  have h : w * t ≤ w * 10000 := Nat.mul_le_mul_left _ ht
  calc w * t / 10000 ≤ w * 10000 / 10000 := Nat.div_le_div_right h
    _ = w := Nat.mul_div_cancel _ (by omega)
theorem offS_mul (w s t p : Nat) (hp : p ≤ 10000) : offS w s t p * w ≤ s * offW w t := by
  unfold offS
  generalize offW w t = o
  have h1 : s * p * o / (w * 10000) * (w * 10000) ≤ s * p * o := Nat.div_mul_le_self _ _
  have h2 : s * p * o ≤ s * 10000 * o := Nat.mul_le_mul_right _ (Nat.mul_le_mul_left _ hp)
  generalize s * p * o / (w * 10000) = q at *
  have h3 : (q * w) * 10000 ≤ (s * o) * 10000 := by
    calc (q * w) * 10000 = q * (w * 10000) := by rw [Nat.mul_assoc]
      _ ≤ s * 10000 * o := Nat.le_trans h1 h2
      _ = (s * o) * 10000 := by rw [Nat.mul_assoc, Nat.mul_comm 10000 o, ← Nat.mul_assoc]
  exact Nat.le_of_mul_le_mul_right h3 (by omega)
theorem offS_le (w s t p : Nat) (ht : t ≤ 10000) (hp : p ≤ 10000) : offS w s t p ≤ s := by
  rcases Nat.eq_zero_or_pos w with rfl | hw
  · simp [offS]
  · have h1 := offS_mul w s t p hp
    have h2 : s * offW w t ≤ s * w := Nat.mul_le_mul_left _ (offW_le w t ht)
    exact Nat.le_of_mul_le_mul_right (Nat.le_trans h1 h2) hw
theorem stp_conc (t p : Nat) (x : Nat × Nat) (ht : t ≤ 10000) (hp : p ≤ 10000) : x.2 * (stp t p x).1 ≤ (stp t p x).2 * x.1 := by
  obtain ⟨w, s⟩ := x
  show s * (w - offW w t) ≤ (s - offS w s t p) * w
  have h1 := offS_mul w s t p hp
  have h2 := offS_le w s t p ht hp
  have h3 := offW_le w t ht
  generalize offS w s t p = u at *
  generalize offW w t = o at *
  obtain ⟨a, rfl⟩ : ∃ a, w = a + o := ⟨w - o, by omega⟩
  obtain ⟨b, rfl⟩ : ∃ b, s = b + u := ⟨s - u, by omega⟩
  rw [show a + o - o = a from by omega, show b + u - u = b from by omega]
  simp only [Nat.add_mul, Nat.mul_add] at *
  omega
theorem stp_le (t p : Nat) (x : Nat × Nat) : (stp t p x).1 ≤ x.1 ∧ (stp t p x).2 ≤ x.2 := ⟨Nat.sub_le _ _, Nat.sub_le _ _⟩
theorem rk_le (t p : Nat) (x : Nat × Nat) : ∀ k, (rk t p x k).1 ≤ x.1 ∧ (rk t p x k).2 ≤ x.2
  | 0 => ⟨Nat.le_refl _, Nat.le_refl _⟩
  | k + 1 => by
    have h := rk_le t p x k
    have h' := stp_le t p (rk t p x k)
    exact ⟨Nat.le_trans h'.1 h.1, Nat.le_trans h'.2 h.2⟩
theorem rk_conc (t p : Nat) (x : Nat × Nat) (ht : t ≤ 10000) (hp : p ≤ 10000) : ∀ k, x.2 * (rk t p x k).1 ≤ (rk t p x k).2 * x.1
  | 0 => Nat.le_refl _
  | k + 1 => by
    have h := rk_conc t p x ht hp k
    have h1 := stp_conc t p (rk t p x k) ht hp
    have h2 := (stp_le t p (rk t p x k)).1
    show x.2 * (stp t p (rk t p x k)).1 ≤ (stp t p (rk t p x k)).2 * x.1
    generalize (stp t p (rk t p x k)).1 = w2 at *
    generalize (stp t p (rk t p x k)).2 = s2 at *
    generalize (rk t p x k).1 = w1 at *
    generalize (rk t p x k).2 = s1 at *
    generalize x.1 = w0 at *
    generalize x.2 = s0 at *
    rcases Nat.eq_zero_or_pos w1 with rfl | hw
    · obtain rfl : w2 = 0 := by omega
      simp
    · have a1 : s0 * w1 * w2 ≤ s1 * w0 * w2 := Nat.mul_le_mul_right _ h
      have a2 : s1 * w2 * w0 ≤ s2 * w1 * w0 := Nat.mul_le_mul_right _ h1
      refine Nat.le_of_mul_le_mul_right (c := w1) ?_ hw
      calc s0 * w2 * w1 = s0 * w1 * w2 := Nat.mul_right_comm _ _ _
        _ ≤ s1 * w0 * w2 := a1
        _ = s1 * w2 * w0 := Nat.mul_right_comm _ _ _
        _ ≤ s2 * w1 * w0 := a2
        _ = s2 * w0 * w1 := Nat.mul_right_comm _ _ _
theorem rk_pass0 (t : Nat) (x : Nat × Nat) : ∀ k, (rk t 0 x k).2 = x.2
  | 0 => rfl
  | k + 1 => by
    show (rk t 0 x k).2 - offS _ _ t 0 = x.2
    rw [rk_pass0 t x k]
    simp [offS]
theorem rk_water (t p : Nat) (x : Nat × Nat) (ht : t < 10000) (hx : 0 < x.1) : ∀ k, 0 < (rk t p x k).1
  | 0 => hx
  | k + 1 => by
    have h := rk_water t p x ht hx k
    show 0 < (rk t p x k).1 - offW (rk t p x k).1 t
    generalize (rk t p x k).1 = w at *
    have : offW w t < w := by
      unfold offW
      refine Nat.div_lt_of_lt_mul ?_
      rw [Nat.mul_comm]
      exact Nat.mul_lt_mul_of_pos_right ht h
    omega
/-- no sap is less concentrated behind rounds: rounded down -/
theorem floor_mono (T w0 s0 w s : Nat) (h : s0 * w ≤ s * w0) (hs : 0 < s0) (hm : 0 < w + s) : s0 * T / (w0 + s0) ≤ s * T / (w + s) := by
  have hd : s0 * T / (w0 + s0) * (w0 + s0) ≤ s0 * T := Nat.div_mul_le_self _ _
  have hc : s0 * T / (w0 + s0) ≤ T := Nat.div_le_of_le_mul (by rw [Nat.add_mul]; omega)
  obtain ⟨a, ha⟩ : ∃ a, s0 * T / (w0 + s0) = a := ⟨_, rfl⟩
  rw [ha] at hd hc ⊢
  rw [Nat.le_div_iff_mul_le hm]
  obtain ⟨c, rfl⟩ : ∃ c, T = a + c := ⟨T - a, by omega⟩
  have h1 : a * w0 ≤ s0 * c := by rw [Nat.mul_add, Nat.mul_add, Nat.mul_comm s0 a] at hd; omega
  have h2 : a * w ≤ s * c := by
    refine Nat.le_of_mul_le_mul_right (c := s0) ?_ hs
    calc a * w * s0 = a * (s0 * w) := by rw [Nat.mul_assoc, Nat.mul_comm w s0]
      _ ≤ a * (s * w0) := Nat.mul_le_mul_left _ h
      _ = s * (a * w0) := by rw [Nat.mul_left_comm]
      _ ≤ s * (s0 * c) := Nat.mul_le_mul_left _ h1
      _ = s * c * s0 := by rw [Nat.mul_comm s0 c, Nat.mul_assoc]
  rw [Nat.mul_add, Nat.mul_add, Nat.mul_comm s a]
  omega
/-- and rounded up: c is at least the concentration of what is kept -/
theorem ceil_mono (w0 s0 w s c : Nat) (h : s0 * w ≤ s * w0) (hm : 0 < w + s) (hs : 0 < s) (hc : s * 10000 ≤ c * (w + s)) : s0 * 10000 ≤ c * (w0 + s0) := by
  rcases Nat.lt_or_ge 10000 c with h1 | h1
  · rw [Nat.mul_add, Nat.mul_comm s0]
    have := Nat.mul_le_mul_right s0 (show 10000 ≤ c from by omega)
    rw [Nat.mul_comm 10000 s0] at this
    omega
  · generalize 10000 = T at *
    obtain ⟨d, hd⟩ : ∃ d, T = c + d := ⟨T - c, by omega⟩
    rw [hd] at hc ⊢
    rw [Nat.mul_add, Nat.mul_add, Nat.mul_comm s c] at hc
    rw [Nat.mul_add, Nat.mul_add, Nat.mul_comm s0 c]
    have h2 : s * d ≤ c * w := by omega
    have h3 : s0 * d ≤ c * w0 := by
      rcases Nat.eq_zero_or_pos w with rfl | hw
      · have : s * d = 0 := by omega
        rcases Nat.mul_eq_zero.1 this with h0 | rfl
        · omega
        · simp
      · refine Nat.le_of_mul_le_mul_right (c := w) ?_ hw
        calc s0 * d * w = d * (s0 * w) := by rw [Nat.mul_comm s0 d, Nat.mul_assoc]
          _ ≤ d * (s * w0) := Nat.mul_le_mul_left _ h
          _ = (s * d) * w0 := by rw [← Nat.mul_assoc, Nat.mul_comm d s]
          _ ≤ (c * w) * w0 := Nat.mul_le_mul_right _ h2
          _ = c * w0 * w := Nat.mul_right_comm _ _ _
    omega
/-- less water must go off behind rounds -/
theorem boil_less (w0 s0 w s b : Nat) (h : s0 * w ≤ s * w0) (hw : w ≤ w0) (hsl : s ≤ s0) (hs : 0 < s0) (hb : 0 < b) (hb2 : b ≤ 10000) (hc : s0 * 10000 ≤ b * (w0 + s0)) :
    w + s + s0 * 10000 / b ≤ w0 + s0 + s * 10000 / b := by
  obtain ⟨gw, rfl⟩ : ∃ g, w0 = w + g := ⟨w0 - w, by omega⟩
  obtain ⟨gs, rfl⟩ : ∃ g, s0 = s + g := ⟨s0 - s, by omega⟩
  generalize 10000 = T at *
  obtain ⟨d, hd⟩ : ∃ d, T = b + d := ⟨T - b, by omega⟩
  have h1 : (s + gs) * d ≤ b * (w + gw) := by
    rw [hd, Nat.mul_add, Nat.mul_add b, Nat.mul_comm (s + gs) b] at hc; omega
  have h2 : gs * (w + gw) ≤ (s + gs) * gw := by
    simp only [Nat.add_mul, Nat.mul_add] at h ⊢; omega
  have h3 : gs * d ≤ gw * b := by
    refine Nat.le_of_mul_le_mul_right (c := s + gs) ?_ hs
    calc gs * d * (s + gs) = gs * ((s + gs) * d) := by rw [Nat.mul_assoc, Nat.mul_comm d]
      _ ≤ gs * (b * (w + gw)) := Nat.mul_le_mul_left _ h1
      _ = b * (gs * (w + gw)) := by rw [Nat.mul_left_comm]
      _ ≤ b * ((s + gs) * gw) := Nat.mul_le_mul_left _ h2
      _ = gw * b * (s + gs) := by rw [Nat.mul_comm (s + gs) gw, ← Nat.mul_assoc, Nat.mul_comm b gw]
  have h4 : (s + gs) * T ≤ s * T + (gw + gs) * b := by
    rw [Nat.add_mul s gs, Nat.add_mul gw gs]
    have : gs * T = gs * b + gs * d := by rw [← Nat.mul_add, ← hd]
    omega
  have h5 : (s + gs) * T / b ≤ s * T / b + (gw + gs) := by
    refine Nat.le_trans (Nat.div_le_div_right h4) ?_
    rw [Nat.add_mul_div_right _ _ hb]
    exact Nat.le_refl _
  omega
/-- the product of two words that is divided fits -/
theorem off_fits (w s t p : Nat) (hw : 0 < w) (hw2 : w ≤ 1000000000000) (hs : s ≤ 1000000000000) (ht : t ≤ 10000) (hp : p ≤ 10000) :
    s * p ≤ 10000000000000000 ∧ w * 10000 ≤ 10000000000000000 ∧ w * t ≤ 10000000000000000 ∧ s * p * offW w t / 18446744073709551616 < w * 10000 := by
  have h1 : s * p ≤ 1000000000000 * 10000 := Nat.mul_le_mul hs hp
  have h2 : w * t ≤ 1000000000000 * 10000 := Nat.mul_le_mul hw2 ht
  refine ⟨by omega, by omega, by omega, ?_⟩
  have h3 := offW_le w t ht
  have h4 : s * p * offW w t ≤ 10000000000000000 * w := Nat.mul_le_mul (by omega) h3
  generalize s * p * offW w t = m at *
  omega

open Go.RowKit Go.Lib Go.Shelf
set_option linter.unusedVariables false
set_option linter.unusedSimpArgs false
attribute [local go_sem ↓] Go.wp_at_zero Go.wp_at_succ

theorem wrapI (n : Nat) (h : n ≤ 9000000000000000000) : IntKind.i64.wrap (n : Int) = (n : Int) := IntWalk.i64_in _ (by omega)

def addP (a b : Int × Int) : Int × Int := (a.1 + b.1, a.2 + b.2)
def suU (xs : List (Int × Int)) : Int × Int := xs.foldl addP (0, 0)
theorem suU_snoc (xs : List (Int × Int)) (p : Int × Int) : suU (xs ++ [p]) = addP (suU xs) p := by simp [suU, List.foldl_append]
/-- grams, some ten times as many as there may be -/
def smB (p : Int × Int) : Prop := 0 ≤ p.1 ∧ p.1 ≤ 1000000000000000 ∧ 0 ≤ p.2 ∧ p.2 ≤ 1000000000000000
end Go.Proofs.Ytclnfncdphfgjaa
