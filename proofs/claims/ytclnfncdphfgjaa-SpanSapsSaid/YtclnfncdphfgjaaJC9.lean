/- Contracts: V6, joined. -/
import Derived.Test.YtclnfncdphfgjaaJC8
namespace Go.Proofs.Ytclnfncdphfgjaa
open Go.RowKit Go.Lib Go.Shelf
set_option linter.unusedVariables false
set_option linter.unusedSimpArgs false
attribute [local go_sem ↓] Go.wp_at_zero Go.wp_at_succ


set_option maxRecDepth 20000 in
set_option maxHeartbeats 1000000 in
theorem rDrawn_any (a s m : Int) (hv : spB a s = true) (h0 : 0 ≤ m) (h1 : m ≤ a + s) (w : World) :
    Calls Try.prog 63 #[.agg #[.int .i64 a, .int .i64 s], .int .i64 m] w fun e w' => e = .returned (.tuple #[.agg #[.int .i64 (m - dq a s m), .int .i64 (dq a s m)], .agg #[.int .i64 (a - (m - dq a s m)), .int .i64 (s - dq a s m)]]) ∧ Below w.heap.size w w' := by
  obtain ⟨a1, a2, s1, s2⟩ := spB_of hv
  have hb := dq_bd hv h0 h1
  by_cases hm : m = 0
  · subst hm
    rw [show dq a s 0 = 0 from if_pos rfl]
    have e1 : (0 : Int) - 0 = 0 := by omega
    have e2 : a - 0 = a := by omega
    have e3 : s - 0 = s := by omega
    rw [e1, e2, e3]
    go_enter Try.func63, Try.ntmps63
    go_wp2_with fail
    have hb : Below w.heap.size w (((w.alloc (Obj.cells #[.int .i64 a, .int .i64 s] 28)).alloc (Obj.cells #[.int .i64 0, .int .i64 0] 28)).alloc (Obj.cells #[.int .i64 0, .int .i64 0] 28)) := ((((Below.refl _ _).alloc (Nat.le_refl _) _).alloc (by simp <;> omega) _).alloc (by simp <;> omega) _)
    have X0 : (((w.alloc (Obj.cells #[.int .i64 a, .int .i64 s] 28)).alloc (Obj.cells #[.int .i64 0, .int .i64 0] 28)).alloc (Obj.cells #[.int .i64 0, .int .i64 0] 28)).cell? ⟨w.heap.size, 0, none⟩ = some (.int .i64 a) := by simp [go_sem]
    have X1 : (((w.alloc (Obj.cells #[.int .i64 a, .int .i64 s] 28)).alloc (Obj.cells #[.int .i64 0, .int .i64 0] 28)).alloc (Obj.cells #[.int .i64 0, .int .i64 0] 28)).cell? ⟨w.heap.size, 1, none⟩ = some (.int .i64 s) := by simp [go_sem]
    have nX : w.heap.size < (((w.alloc (Obj.cells #[.int .i64 a, .int .i64 s] 28)).alloc (Obj.cells #[.int .i64 0, .int .i64 0] 28)).alloc (Obj.cells #[.int .i64 0, .int .i64 0] 28)).heap.size := by simp <;> omega
    have D0 : (((w.alloc (Obj.cells #[.int .i64 a, .int .i64 s] 28)).alloc (Obj.cells #[.int .i64 0, .int .i64 0] 28)).alloc (Obj.cells #[.int .i64 0, .int .i64 0] 28)).cell? ⟨w.heap.size + 1, 0, none⟩ = some (.int .i64 0) := by simp [go_sem]
    have fD0 : (((w.alloc (Obj.cells #[.int .i64 a, .int .i64 s] 28)).alloc (Obj.cells #[.int .i64 0, .int .i64 0] 28)).alloc (Obj.cells #[.int .i64 0, .int .i64 0] 28)).frozen? ⟨w.heap.size + 1, 0, none⟩ = false := by simp [go_sem]
    have D1 : (((w.alloc (Obj.cells #[.int .i64 a, .int .i64 s] 28)).alloc (Obj.cells #[.int .i64 0, .int .i64 0] 28)).alloc (Obj.cells #[.int .i64 0, .int .i64 0] 28)).cell? ⟨w.heap.size + 1, 1, none⟩ = some (.int .i64 0) := by simp [go_sem]
    have fD1 : (((w.alloc (Obj.cells #[.int .i64 a, .int .i64 s] 28)).alloc (Obj.cells #[.int .i64 0, .int .i64 0] 28)).alloc (Obj.cells #[.int .i64 0, .int .i64 0] 28)).frozen? ⟨w.heap.size + 1, 1, none⟩ = false := by simp [go_sem]
    have nD : w.heap.size + 1 < (((w.alloc (Obj.cells #[.int .i64 a, .int .i64 s] 28)).alloc (Obj.cells #[.int .i64 0, .int .i64 0] 28)).alloc (Obj.cells #[.int .i64 0, .int .i64 0] 28)).heap.size := by simp <;> omega
    have L0 : (((w.alloc (Obj.cells #[.int .i64 a, .int .i64 s] 28)).alloc (Obj.cells #[.int .i64 0, .int .i64 0] 28)).alloc (Obj.cells #[.int .i64 0, .int .i64 0] 28)).cell? ⟨w.heap.size + 1 + 1, 0, none⟩ = some (.int .i64 0) := by simp [go_sem]
    have fL0 : (((w.alloc (Obj.cells #[.int .i64 a, .int .i64 s] 28)).alloc (Obj.cells #[.int .i64 0, .int .i64 0] 28)).alloc (Obj.cells #[.int .i64 0, .int .i64 0] 28)).frozen? ⟨w.heap.size + 1 + 1, 0, none⟩ = false := by simp [go_sem]
    have L1 : (((w.alloc (Obj.cells #[.int .i64 a, .int .i64 s] 28)).alloc (Obj.cells #[.int .i64 0, .int .i64 0] 28)).alloc (Obj.cells #[.int .i64 0, .int .i64 0] 28)).cell? ⟨w.heap.size + 1 + 1, 1, none⟩ = some (.int .i64 0) := by simp [go_sem]
    have fL1 : (((w.alloc (Obj.cells #[.int .i64 a, .int .i64 s] 28)).alloc (Obj.cells #[.int .i64 0, .int .i64 0] 28)).alloc (Obj.cells #[.int .i64 0, .int .i64 0] 28)).frozen? ⟨w.heap.size + 1 + 1, 1, none⟩ = false := by simp [go_sem]
    have nL : w.heap.size + 1 + 1 < (((w.alloc (Obj.cells #[.int .i64 a, .int .i64 s] 28)).alloc (Obj.cells #[.int .i64 0, .int .i64 0] 28)).alloc (Obj.cells #[.int .i64 0, .int .i64 0] 28)).heap.size := by simp <;> omega
    have hB := hb
    clear hb
    generalize (((w.alloc (Obj.cells #[.int .i64 a, .int .i64 s] 28)).alloc (Obj.cells #[.int .i64 0, .int .i64 0] 28)).alloc (Obj.cells #[.int .i64 0, .int .i64 0] 28)) = W1 at *
    have hz9 : w.heap.size ≠ w.heap.size + 1 := by omega
    have hBW : w.heap.size ≤ W1.heap.size := hB.size
    refine wp_region_held_drew (S := fun w' => w'.cell? ⟨w.heap.size, 0, none⟩ = some (.int .i64 a) ∧ w'.cell? ⟨w.heap.size, 1, none⟩ = some (.int .i64 s) ∧ True) (by kernel_rfl) ?_ (fun hHeld => ?_)
    focus (exact ⟨X0, X1, trivial⟩)
    have hL : Below w.heap.size W1 W1.drew := Below.drew (Below.refl _ _)
    replace X0 : W1.drew.cell? ⟨w.heap.size, 0, none⟩ = some (.int .i64 a) := X0
    replace X1 : W1.drew.cell? ⟨w.heap.size, 1, none⟩ = some (.int .i64 s) := X1
    replace D0 : W1.drew.cell? ⟨w.heap.size + 1, 0, none⟩ = some (.int .i64 0) := D0
    replace fD0 : W1.drew.frozen? ⟨w.heap.size + 1, 0, none⟩ = false := fD0
    replace D1 : W1.drew.cell? ⟨w.heap.size + 1, 1, none⟩ = some (.int .i64 0) := D1
    replace fD1 : W1.drew.frozen? ⟨w.heap.size + 1, 1, none⟩ = false := fD1
    replace L0 : W1.drew.cell? ⟨w.heap.size + 1 + 1, 0, none⟩ = some (.int .i64 0) := L0
    replace fL0 : W1.drew.frozen? ⟨w.heap.size + 1 + 1, 0, none⟩ = false := fL0
    replace L1 : W1.drew.cell? ⟨w.heap.size + 1 + 1, 1, none⟩ = some (.int .i64 0) := L1
    replace fL1 : W1.drew.frozen? ⟨w.heap.size + 1 + 1, 1, none⟩ = false := fL1
    replace nX : w.heap.size < W1.drew.heap.size := nX
    replace nD : w.heap.size + 1 < W1.drew.heap.size := nD
    replace nL : w.heap.size + 1 + 1 < W1.drew.heap.size := nL
    generalize hWd : W1.drew = wd2 at hHeld hL X0 X1 D0 fD0 D1 fD1 L0 fL0 L1 fL1 nX nD nL  ⊢
    clear hWd
    refine take_slot (i := 0) (d := 10) (v := ?_) rfl rfl (by kernel_rfl) (by kernel_rfl) (by kernel_rfl) (fun _ _ _ h => h) (Or.inl ⟨by rfl, ?_⟩) (by assumption) ?_
    rotate_left 1
    focus (intro wS hSw; (try dsimp only at hSw); go_simp; try with_reducible rfl)
    try simp only [List.setIfInBounds_toArray, List.set_cons_zero, List.set_cons_succ]
    refine take_slot (i := 1) (d := 11) (v := ?_) rfl rfl (by kernel_rfl) (by kernel_rfl) (by kernel_rfl) (fun _ _ _ h => h) (Or.inl ⟨by rfl, ?_⟩) (by assumption) ?_
    rotate_left 1
    focus (intro wS hSw; (try dsimp only at hSw); go_simp; try with_reducible rfl)
    try simp only [List.setIfInBounds_toArray, List.set_cons_zero, List.set_cons_succ]
    refine wpAnyH_ready (rs := [2]) (by kernel_rfl) (by simp) ?_
    refine AllReadyH.cons rfl (fun K hK => ?_) AllReadyH.nil
    go_simp
    replace X0 : ((wd2.setCell ⟨w.heap.size + 1, 0, none⟩ (.int .i64 0)).setCell ⟨w.heap.size + 1, 1, none⟩ (.int .i64 0)).cell? ⟨w.heap.size, 0, none⟩ = some (.int .i64 a) := ((World.cell?_setCell_other _ _ _ _ (by intro e; injection e with e1 e2; omega)).trans ((World.cell?_setCell_other _ _ _ _ (by intro e; injection e with e1 e2; omega)).trans X0))
    replace X1 : ((wd2.setCell ⟨w.heap.size + 1, 0, none⟩ (.int .i64 0)).setCell ⟨w.heap.size + 1, 1, none⟩ (.int .i64 0)).cell? ⟨w.heap.size, 1, none⟩ = some (.int .i64 s) := ((World.cell?_setCell_other _ _ _ _ (by intro e; injection e with e1 e2; omega)).trans ((World.cell?_setCell_other _ _ _ _ (by intro e; injection e with e1 e2; omega)).trans X1))
    replace D0 : ((wd2.setCell ⟨w.heap.size + 1, 0, none⟩ (.int .i64 0)).setCell ⟨w.heap.size + 1, 1, none⟩ (.int .i64 0)).cell? ⟨w.heap.size + 1, 0, none⟩ = some (.int .i64 0) := by simp [go_sem, D0]
    replace fD0 : ((wd2.setCell ⟨w.heap.size + 1, 0, none⟩ (.int .i64 0)).setCell ⟨w.heap.size + 1, 1, none⟩ (.int .i64 0)).frozen? ⟨w.heap.size + 1, 0, none⟩ = false := by simp [go_sem, fD0]
    replace D1 : ((wd2.setCell ⟨w.heap.size + 1, 0, none⟩ (.int .i64 0)).setCell ⟨w.heap.size + 1, 1, none⟩ (.int .i64 0)).cell? ⟨w.heap.size + 1, 1, none⟩ = some (.int .i64 0) := by simp [go_sem, D1]
    replace fD1 : ((wd2.setCell ⟨w.heap.size + 1, 0, none⟩ (.int .i64 0)).setCell ⟨w.heap.size + 1, 1, none⟩ (.int .i64 0)).frozen? ⟨w.heap.size + 1, 1, none⟩ = false := by simp [go_sem, fD1]
    replace L0 : ((wd2.setCell ⟨w.heap.size + 1, 0, none⟩ (.int .i64 0)).setCell ⟨w.heap.size + 1, 1, none⟩ (.int .i64 0)).cell? ⟨w.heap.size + 1 + 1, 0, none⟩ = some (.int .i64 0) := ((World.cell?_setCell_other _ _ _ _ (by intro e; injection e with e1 e2; omega)).trans ((World.cell?_setCell_other _ _ _ _ (by intro e; injection e with e1 e2; omega)).trans L0))
    replace fL0 : ((wd2.setCell ⟨w.heap.size + 1, 0, none⟩ (.int .i64 0)).setCell ⟨w.heap.size + 1, 1, none⟩ (.int .i64 0)).frozen? ⟨w.heap.size + 1 + 1, 0, none⟩ = false := by simp [go_sem, fL0]
    replace L1 : ((wd2.setCell ⟨w.heap.size + 1, 0, none⟩ (.int .i64 0)).setCell ⟨w.heap.size + 1, 1, none⟩ (.int .i64 0)).cell? ⟨w.heap.size + 1 + 1, 1, none⟩ = some (.int .i64 0) := ((World.cell?_setCell_other _ _ _ _ (by intro e; injection e with e1 e2; omega)).trans ((World.cell?_setCell_other _ _ _ _ (by intro e; injection e with e1 e2; omega)).trans L1))
    replace fL1 : ((wd2.setCell ⟨w.heap.size + 1, 0, none⟩ (.int .i64 0)).setCell ⟨w.heap.size + 1, 1, none⟩ (.int .i64 0)).frozen? ⟨w.heap.size + 1 + 1, 1, none⟩ = false := by simp [go_sem, fL1]
    replace nX : w.heap.size < ((wd2.setCell ⟨w.heap.size + 1, 0, none⟩ (.int .i64 0)).setCell ⟨w.heap.size + 1, 1, none⟩ (.int .i64 0)).heap.size := by simpa [World.setCell] using nX
    replace nD : w.heap.size + 1 < ((wd2.setCell ⟨w.heap.size + 1, 0, none⟩ (.int .i64 0)).setCell ⟨w.heap.size + 1, 1, none⟩ (.int .i64 0)).heap.size := by simpa [World.setCell] using nD
    replace nL : w.heap.size + 1 + 1 < ((wd2.setCell ⟨w.heap.size + 1, 0, none⟩ (.int .i64 0)).setCell ⟨w.heap.size + 1, 1, none⟩ (.int .i64 0)).heap.size := by simpa [World.setCell] using nL
    replace hL := hL.setCell (p := ⟨w.heap.size + 1, 0, none⟩) (by show w.heap.size ≤ w.heap.size + 1; omega) (.int .i64 0)
    replace hL := hL.setCell (p := ⟨w.heap.size + 1, 1, none⟩) (by show w.heap.size ≤ w.heap.size + 1; omega) (.int .i64 0)
    refine hK.out _ _ ⟨X0, X1, trivial⟩ (fun hHeld => ?_)
    clear hK K
    try simp only [Act.put, List.setIfInBounds_toArray, List.set_cons_zero, List.set_cons_succ]
    refine wpAnyH_ready (rs := [3]) (by kernel_rfl) (by simp) ?_
    refine AllReadyH.cons rfl (fun K hK => ?_) AllReadyH.nil
    go_simp
    replace X0 : ((((wd2.setCell ⟨w.heap.size + 1, 0, none⟩ (.int .i64 0)).setCell ⟨w.heap.size + 1, 1, none⟩ (.int .i64 0)).setCell ⟨w.heap.size + 1 + 1, 0, none⟩ (.int .i64 a)).setCell ⟨w.heap.size + 1 + 1, 1, none⟩ (.int .i64 s)).cell? ⟨w.heap.size, 0, none⟩ = some (.int .i64 a) := ((World.cell?_setCell_other _ _ _ _ (by intro e; injection e with e1 e2; omega)).trans ((World.cell?_setCell_other _ _ _ _ (by intro e; injection e with e1 e2; omega)).trans X0))
    replace X1 : ((((wd2.setCell ⟨w.heap.size + 1, 0, none⟩ (.int .i64 0)).setCell ⟨w.heap.size + 1, 1, none⟩ (.int .i64 0)).setCell ⟨w.heap.size + 1 + 1, 0, none⟩ (.int .i64 a)).setCell ⟨w.heap.size + 1 + 1, 1, none⟩ (.int .i64 s)).cell? ⟨w.heap.size, 1, none⟩ = some (.int .i64 s) := ((World.cell?_setCell_other _ _ _ _ (by intro e; injection e with e1 e2; omega)).trans ((World.cell?_setCell_other _ _ _ _ (by intro e; injection e with e1 e2; omega)).trans X1))
    replace D0 : ((((wd2.setCell ⟨w.heap.size + 1, 0, none⟩ (.int .i64 0)).setCell ⟨w.heap.size + 1, 1, none⟩ (.int .i64 0)).setCell ⟨w.heap.size + 1 + 1, 0, none⟩ (.int .i64 a)).setCell ⟨w.heap.size + 1 + 1, 1, none⟩ (.int .i64 s)).cell? ⟨w.heap.size + 1, 0, none⟩ = some (.int .i64 0) := ((World.cell?_setCell_other _ _ _ _ (by intro e; injection e with e1 e2; omega)).trans ((World.cell?_setCell_other _ _ _ _ (by intro e; injection e with e1 e2; omega)).trans D0))
    replace fD0 : ((((wd2.setCell ⟨w.heap.size + 1, 0, none⟩ (.int .i64 0)).setCell ⟨w.heap.size + 1, 1, none⟩ (.int .i64 0)).setCell ⟨w.heap.size + 1 + 1, 0, none⟩ (.int .i64 a)).setCell ⟨w.heap.size + 1 + 1, 1, none⟩ (.int .i64 s)).frozen? ⟨w.heap.size + 1, 0, none⟩ = false := by simp [go_sem, fD0]
    replace D1 : ((((wd2.setCell ⟨w.heap.size + 1, 0, none⟩ (.int .i64 0)).setCell ⟨w.heap.size + 1, 1, none⟩ (.int .i64 0)).setCell ⟨w.heap.size + 1 + 1, 0, none⟩ (.int .i64 a)).setCell ⟨w.heap.size + 1 + 1, 1, none⟩ (.int .i64 s)).cell? ⟨w.heap.size + 1, 1, none⟩ = some (.int .i64 0) := ((World.cell?_setCell_other _ _ _ _ (by intro e; injection e with e1 e2; omega)).trans ((World.cell?_setCell_other _ _ _ _ (by intro e; injection e with e1 e2; omega)).trans D1))
    replace fD1 : ((((wd2.setCell ⟨w.heap.size + 1, 0, none⟩ (.int .i64 0)).setCell ⟨w.heap.size + 1, 1, none⟩ (.int .i64 0)).setCell ⟨w.heap.size + 1 + 1, 0, none⟩ (.int .i64 a)).setCell ⟨w.heap.size + 1 + 1, 1, none⟩ (.int .i64 s)).frozen? ⟨w.heap.size + 1, 1, none⟩ = false := by simp [go_sem, fD1]
    replace L0 : ((((wd2.setCell ⟨w.heap.size + 1, 0, none⟩ (.int .i64 0)).setCell ⟨w.heap.size + 1, 1, none⟩ (.int .i64 0)).setCell ⟨w.heap.size + 1 + 1, 0, none⟩ (.int .i64 a)).setCell ⟨w.heap.size + 1 + 1, 1, none⟩ (.int .i64 s)).cell? ⟨w.heap.size + 1 + 1, 0, none⟩ = some (.int .i64 a) := by simp [go_sem, L0]
    replace fL0 : ((((wd2.setCell ⟨w.heap.size + 1, 0, none⟩ (.int .i64 0)).setCell ⟨w.heap.size + 1, 1, none⟩ (.int .i64 0)).setCell ⟨w.heap.size + 1 + 1, 0, none⟩ (.int .i64 a)).setCell ⟨w.heap.size + 1 + 1, 1, none⟩ (.int .i64 s)).frozen? ⟨w.heap.size + 1 + 1, 0, none⟩ = false := by simp [go_sem, fL0]
    replace L1 : ((((wd2.setCell ⟨w.heap.size + 1, 0, none⟩ (.int .i64 0)).setCell ⟨w.heap.size + 1, 1, none⟩ (.int .i64 0)).setCell ⟨w.heap.size + 1 + 1, 0, none⟩ (.int .i64 a)).setCell ⟨w.heap.size + 1 + 1, 1, none⟩ (.int .i64 s)).cell? ⟨w.heap.size + 1 + 1, 1, none⟩ = some (.int .i64 s) := by simp [go_sem, L1]
    replace fL1 : ((((wd2.setCell ⟨w.heap.size + 1, 0, none⟩ (.int .i64 0)).setCell ⟨w.heap.size + 1, 1, none⟩ (.int .i64 0)).setCell ⟨w.heap.size + 1 + 1, 0, none⟩ (.int .i64 a)).setCell ⟨w.heap.size + 1 + 1, 1, none⟩ (.int .i64 s)).frozen? ⟨w.heap.size + 1 + 1, 1, none⟩ = false := by simp [go_sem, fL1]
    replace nX : w.heap.size < ((((wd2.setCell ⟨w.heap.size + 1, 0, none⟩ (.int .i64 0)).setCell ⟨w.heap.size + 1, 1, none⟩ (.int .i64 0)).setCell ⟨w.heap.size + 1 + 1, 0, none⟩ (.int .i64 a)).setCell ⟨w.heap.size + 1 + 1, 1, none⟩ (.int .i64 s)).heap.size := by simpa [World.setCell] using nX
    replace nD : w.heap.size + 1 < ((((wd2.setCell ⟨w.heap.size + 1, 0, none⟩ (.int .i64 0)).setCell ⟨w.heap.size + 1, 1, none⟩ (.int .i64 0)).setCell ⟨w.heap.size + 1 + 1, 0, none⟩ (.int .i64 a)).setCell ⟨w.heap.size + 1 + 1, 1, none⟩ (.int .i64 s)).heap.size := by simpa [World.setCell] using nD
    replace nL : w.heap.size + 1 + 1 < ((((wd2.setCell ⟨w.heap.size + 1, 0, none⟩ (.int .i64 0)).setCell ⟨w.heap.size + 1, 1, none⟩ (.int .i64 0)).setCell ⟨w.heap.size + 1 + 1, 0, none⟩ (.int .i64 a)).setCell ⟨w.heap.size + 1 + 1, 1, none⟩ (.int .i64 s)).heap.size := by simpa [World.setCell] using nL
    replace hL := hL.setCell (p := ⟨w.heap.size + 1 + 1, 0, none⟩) (by show w.heap.size ≤ w.heap.size + 1 + 1; omega) (.int .i64 a)
    replace hL := hL.setCell (p := ⟨w.heap.size + 1 + 1, 1, none⟩) (by show w.heap.size ≤ w.heap.size + 1 + 1; omega) (.int .i64 s)
    refine hK.out _ _ ⟨X0, X1, trivial⟩ (fun hHeld => ?_)
    clear hK K
    try simp only [Act.put, List.setIfInBounds_toArray, List.set_cons_zero, List.set_cons_succ]
    refine wpAnyH_done (by kernel_rfl) ?_ _
    replace hB := hB.trans hL
    clear hHeld hL hBW
    go_wp2_with fail
    refine bodyPost_ret (v := .tuple #[.agg #[.int .i64 0, .int .i64 0], .agg #[.int .i64 a, .int .i64 s]]) (by simp [results, Try.results63, go_sem, *]) rfl ⟨rfl, ?_⟩
    repeat (first | with_reducible exact hB | with_reducible refine Below.drew ?_ | (with_reducible refine Below.setCell ?_ ?hp _; case hp => simp <;> omega))

  · have cM : Hid (∀ w : World, Calls Try.prog 105 #[.int .i64 s, .int .i64 m, .int .i64 (a + s)] w fun e w' => e = .returned (.int .i64 (dq a s m)) ∧ Below w.heap.size w w') := Lib.hid (fun w => by
      obtain ⟨S, hS⟩ := Int.eq_ofNat_of_zero_le s1
      obtain ⟨N, hN⟩ := Int.eq_ofNat_of_zero_le h0
      obtain ⟨D, hD⟩ := Int.eq_ofNat_of_zero_le (show 0 ≤ a + s by omega)
      have h := mulDiv_any S N D (by omega) (by omega) (by omega) (by omega) w
      rw [show dq a s m = s * m / (a + s) from if_neg hm, hD, hS, hN]
      rw [Int.natCast_ediv, Int.natCast_mul] at h
      exact h)
    have t0 : (m == 0) = false := by simpa using hm
    have wt : IntKind.i64.wrap (a + s) = a + s := IntWalk.i64_in _ (by omega)
    generalize dq a s m = q at *
    go_enter Try.func63, Try.ntmps63
    go_wp2_with fail
    refine (cM.out _).mono ?_
    rintro e W1 ⟨rfl, hb⟩
    have X0 := cell_next hb (b := w.heap.size) (o := 0) (by simp <;> omega) (v := some (.int .i64 a)) (by simp [go_sem])
    have X1 := cell_next hb (b := w.heap.size) (o := 1) (by simp <;> omega) (v := some (.int .i64 s)) (by simp [go_sem])
    have nX : w.heap.size < W1.heap.size := by have := hb.size; simp at this; omega
    have D0 := cell_next hb (b := w.heap.size + 1) (o := 0) (by simp <;> omega) (v := some (.int .i64 0)) (by simp [go_sem])
    have fD0 := frozen_next hb (b := w.heap.size + 1) (o := 0) (by simp <;> omega) (v := false) (by simp [go_sem])
    have D1 := cell_next hb (b := w.heap.size + 1) (o := 1) (by simp <;> omega) (v := some (.int .i64 0)) (by simp [go_sem])
    have fD1 := frozen_next hb (b := w.heap.size + 1) (o := 1) (by simp <;> omega) (v := false) (by simp [go_sem])
    have nD : w.heap.size + 1 < W1.heap.size := by have := hb.size; simp at this; omega
    have L0 := cell_next hb (b := w.heap.size + 1 + 1) (o := 0) (by simp <;> omega) (v := some (.int .i64 0)) (by simp [go_sem])
    have fL0 := frozen_next hb (b := w.heap.size + 1 + 1) (o := 0) (by simp <;> omega) (v := false) (by simp [go_sem])
    have L1 := cell_next hb (b := w.heap.size + 1 + 1) (o := 1) (by simp <;> omega) (v := some (.int .i64 0)) (by simp [go_sem])
    have fL1 := frozen_next hb (b := w.heap.size + 1 + 1) (o := 1) (by simp <;> omega) (v := false) (by simp [go_sem])
    have nL : w.heap.size + 1 + 1 < W1.heap.size := by have := hb.size; simp at this; omega
    have hB := (below3 hb)
    clear hb
    have wm : IntKind.i64.wrap (m - q) = m - q := IntWalk.i64_in _ (by omega)
    have wa : IntKind.i64.wrap (a - (m - q)) = a - (m - q) := IntWalk.i64_in _ (by omega)
    have ws : IntKind.i64.wrap (s - q) = s - q := IntWalk.i64_in _ (by omega)
    have ordL := nL
    go_wp2_with fail
    have hb : Below W1.heap.size W1 (W1.alloc (Obj.cells #[.int .i64 (m - q), .int .i64 q] 28)) := ((Below.refl _ _).alloc (Nat.le_refl _) _)
    replace X0 := cell_next hb nX X0
    replace X1 := cell_next hb nX X1
    replace nX := Nat.lt_of_lt_of_le nX hb.size
    replace D0 := cell_next hb nD D0
    replace fD0 := frozen_next hb nD fD0
    replace D1 := cell_next hb nD D1
    replace fD1 := frozen_next hb nD fD1
    replace nD := Nat.lt_of_lt_of_le nD hb.size
    replace L0 := cell_next hb nL L0
    replace fL0 := frozen_next hb nL fL0
    replace L1 := cell_next hb nL L1
    replace fL1 := frozen_next hb nL fL1
    replace nL := Nat.lt_of_lt_of_le nL hb.size
    have Q0 : (W1.alloc (Obj.cells #[.int .i64 (m - q), .int .i64 q] 28)).cell? ⟨W1.heap.size, 0, none⟩ = some (.int .i64 (m - q)) := by simp [go_sem]
    have Q1 : (W1.alloc (Obj.cells #[.int .i64 (m - q), .int .i64 q] 28)).cell? ⟨W1.heap.size, 1, none⟩ = some (.int .i64 q) := by simp [go_sem]
    have nQ : W1.heap.size < (W1.alloc (Obj.cells #[.int .i64 (m - q), .int .i64 q] 28)).heap.size := by simp <;> omega
    replace hB := hB.trans (hb.mono hB.size)
    clear hb
    generalize (W1.alloc (Obj.cells #[.int .i64 (m - q), .int .i64 q] 28)) = W2 at *
    generalize W1.heap.size = q2 at *
    have hBW : w.heap.size ≤ W2.heap.size := hB.size
    refine wp_region_held_drew (S := fun w' => w'.cell? ⟨w.heap.size, 0, none⟩ = some (.int .i64 a) ∧ w'.cell? ⟨w.heap.size, 1, none⟩ = some (.int .i64 s) ∧ w'.cell? ⟨q2, 0, none⟩ = some (.int .i64 (m - q)) ∧ w'.cell? ⟨q2, 1, none⟩ = some (.int .i64 q) ∧ True) (by kernel_rfl) ?_ (fun hHeld => ?_)
    focus (exact ⟨X0, X1, Q0, Q1, trivial⟩)
    have hL : Below w.heap.size W2 W2.drew := Below.drew (Below.refl _ _)
    replace X0 : W2.drew.cell? ⟨w.heap.size, 0, none⟩ = some (.int .i64 a) := X0
    replace X1 : W2.drew.cell? ⟨w.heap.size, 1, none⟩ = some (.int .i64 s) := X1
    replace D0 : W2.drew.cell? ⟨w.heap.size + 1, 0, none⟩ = some (.int .i64 0) := D0
    replace fD0 : W2.drew.frozen? ⟨w.heap.size + 1, 0, none⟩ = false := fD0
    replace D1 : W2.drew.cell? ⟨w.heap.size + 1, 1, none⟩ = some (.int .i64 0) := D1
    replace fD1 : W2.drew.frozen? ⟨w.heap.size + 1, 1, none⟩ = false := fD1
    replace L0 : W2.drew.cell? ⟨w.heap.size + 1 + 1, 0, none⟩ = some (.int .i64 0) := L0
    replace fL0 : W2.drew.frozen? ⟨w.heap.size + 1 + 1, 0, none⟩ = false := fL0
    replace L1 : W2.drew.cell? ⟨w.heap.size + 1 + 1, 1, none⟩ = some (.int .i64 0) := L1
    replace fL1 : W2.drew.frozen? ⟨w.heap.size + 1 + 1, 1, none⟩ = false := fL1
    replace Q0 : W2.drew.cell? ⟨q2, 0, none⟩ = some (.int .i64 (m - q)) := Q0
    replace Q1 : W2.drew.cell? ⟨q2, 1, none⟩ = some (.int .i64 q) := Q1
    replace nX : w.heap.size < W2.drew.heap.size := nX
    replace nD : w.heap.size + 1 < W2.drew.heap.size := nD
    replace nL : w.heap.size + 1 + 1 < W2.drew.heap.size := nL
    replace nQ : q2 < W2.drew.heap.size := nQ
    generalize hWd : W2.drew = wd3 at hHeld hL X0 X1 D0 fD0 D1 fD1 L0 fL0 L1 fL1 Q0 Q1 nX nD nL nQ  ⊢
    clear hWd
    refine take_slot (i := 0) (d := 26) (v := ?_) rfl rfl (by kernel_rfl) (by kernel_rfl) (by kernel_rfl) (fun _ _ _ h => h) (Or.inl ⟨by rfl, ?_⟩) (by assumption) ?_
    rotate_left 1
    focus (intro wS hSw; (try dsimp only at hSw); go_simp; try with_reducible rfl)
    try simp only [List.setIfInBounds_toArray, List.set_cons_zero, List.set_cons_succ]
    refine take_slot (i := 1) (d := 27) (v := ?_) rfl rfl (by kernel_rfl) (by kernel_rfl) (by kernel_rfl) (fun _ _ _ h => h) (Or.inl ⟨by rfl, ?_⟩) (by assumption) ?_
    rotate_left 1
    focus (intro wS hSw; (try dsimp only at hSw); go_simp; try with_reducible rfl)
    try simp only [List.setIfInBounds_toArray, List.set_cons_zero, List.set_cons_succ]
    refine take_slot (i := 2) (d := 28) (v := ?_) rfl rfl (by kernel_rfl) (by kernel_rfl) (by kernel_rfl) (fun _ _ _ h => h) (Or.inl ⟨by rfl, ?_⟩) (by assumption) ?_
    rotate_left 1
    focus (intro wS hSw; (try dsimp only at hSw); go_simp; try with_reducible rfl)
    try simp only [List.setIfInBounds_toArray, List.set_cons_zero, List.set_cons_succ]
    refine take_slot (i := 3) (d := 29) (v := ?_) rfl rfl (by kernel_rfl) (by kernel_rfl) (by kernel_rfl) (fun _ _ _ h => h) (Or.inl ⟨by rfl, ?_⟩) (by assumption) ?_
    rotate_left 1
    focus (intro wS hSw; (try dsimp only at hSw); go_simp; try with_reducible rfl)
    try simp only [List.setIfInBounds_toArray, List.set_cons_zero, List.set_cons_succ]
    refine take_slot (i := 4) (d := 30) (v := ?_) rfl rfl (by kernel_rfl) (by kernel_rfl) (by kernel_rfl) (fun _ _ _ h => h) (Or.inl ⟨by rfl, ?_⟩) (by assumption) ?_
    rotate_left 1
    focus (intro wS hSw; (try dsimp only at hSw); go_simp; try with_reducible rfl)
    try simp only [List.setIfInBounds_toArray, List.set_cons_zero, List.set_cons_succ]
    refine take_slot (i := 5) (d := 31) (v := ?_) rfl rfl (by kernel_rfl) (by kernel_rfl) (by kernel_rfl) (fun _ _ _ h => h) (Or.inl ⟨by rfl, ?_⟩) (by assumption) ?_
    rotate_left 1
    focus (intro wS hSw; (try dsimp only at hSw); go_simp; try with_reducible rfl)
    try simp only [List.setIfInBounds_toArray, List.set_cons_zero, List.set_cons_succ]
    refine take_slot (i := 6) (d := 32) (v := ?_) rfl rfl (by kernel_rfl) (by kernel_rfl) (by kernel_rfl) (fun _ _ _ h => h) (Or.inl ⟨by rfl, ?_⟩) (by assumption) ?_
    rotate_left 1
    focus (intro wS hSw; (try dsimp only at hSw); go_simp; try with_reducible rfl)
    try simp only [List.setIfInBounds_toArray, List.set_cons_zero, List.set_cons_succ]
    refine take_slot (i := 7) (d := 33) (v := ?_) rfl rfl (by kernel_rfl) (by kernel_rfl) (by kernel_rfl) (fun _ _ _ h => h) (Or.inl ⟨by rfl, ?_⟩) (by assumption) ?_
    rotate_left 1
    focus (intro wS hSw; (try dsimp only at hSw); go_simp; try with_reducible rfl)
    try simp only [List.setIfInBounds_toArray, List.set_cons_zero, List.set_cons_succ]
    refine take_slot (i := 8) (d := 34) (v := ?_) rfl rfl (by kernel_rfl) (by kernel_rfl) (by kernel_rfl) (fun _ _ _ h => h) (Or.inl ⟨by rfl, ?_⟩) (by assumption) ?_
    rotate_left 1
    focus (intro wS hSw; (try dsimp only at hSw); go_simp; try with_reducible rfl)
    try simp only [List.setIfInBounds_toArray, List.set_cons_zero, List.set_cons_succ]
    refine take_slot (i := 9) (d := 35) (v := ?_) rfl rfl (by kernel_rfl) (by kernel_rfl) (by kernel_rfl) (fun _ _ _ h => h) (Or.inl ⟨by rfl, ?_⟩) (by assumption) ?_
    rotate_left 1
    focus (intro wS hSw; (try dsimp only at hSw); go_simp; try with_reducible rfl)
    try simp only [List.setIfInBounds_toArray, List.set_cons_zero, List.set_cons_succ]
    refine take_slot (i := 10) (d := 36) (v := ?_) rfl rfl (by kernel_rfl) (by kernel_rfl) (by kernel_rfl) (fun _ _ _ h => h) (Or.inl ⟨by rfl, ?_⟩) (by assumption) ?_
    rotate_left 1
    focus (intro wS hSw; (try dsimp only at hSw); go_simp; try with_reducible rfl)
    try simp only [List.setIfInBounds_toArray, List.set_cons_zero, List.set_cons_succ]
    refine take_slot (i := 11) (d := 37) (v := ?_) rfl rfl (by kernel_rfl) (by kernel_rfl) (by kernel_rfl) (fun _ _ _ h => h) (Or.inl ⟨by rfl, ?_⟩) (by assumption) ?_
    rotate_left 1
    focus (intro wS hSw; (try dsimp only at hSw); go_simp; try with_reducible rfl)
    try simp only [List.setIfInBounds_toArray, List.set_cons_zero, List.set_cons_succ]
    refine wpAnyH_ready (rs := [12]) (by kernel_rfl) (by simp) ?_
    refine AllReadyH.cons rfl (fun K hK => ?_) AllReadyH.nil
    go_simp
    replace X0 : ((wd3.setCell ⟨w.heap.size + 1, 0, none⟩ (.int .i64 (m - q))).setCell ⟨w.heap.size + 1, 1, none⟩ (.int .i64 q)).cell? ⟨w.heap.size, 0, none⟩ = some (.int .i64 a) := ((World.cell?_setCell_other _ _ _ _ (by intro e; injection e with e1 e2; omega)).trans ((World.cell?_setCell_other _ _ _ _ (by intro e; injection e with e1 e2; omega)).trans X0))
    replace X1 : ((wd3.setCell ⟨w.heap.size + 1, 0, none⟩ (.int .i64 (m - q))).setCell ⟨w.heap.size + 1, 1, none⟩ (.int .i64 q)).cell? ⟨w.heap.size, 1, none⟩ = some (.int .i64 s) := ((World.cell?_setCell_other _ _ _ _ (by intro e; injection e with e1 e2; omega)).trans ((World.cell?_setCell_other _ _ _ _ (by intro e; injection e with e1 e2; omega)).trans X1))
    replace D0 : ((wd3.setCell ⟨w.heap.size + 1, 0, none⟩ (.int .i64 (m - q))).setCell ⟨w.heap.size + 1, 1, none⟩ (.int .i64 q)).cell? ⟨w.heap.size + 1, 0, none⟩ = some (.int .i64 (m - q)) := by simp [go_sem, D0]
    replace fD0 : ((wd3.setCell ⟨w.heap.size + 1, 0, none⟩ (.int .i64 (m - q))).setCell ⟨w.heap.size + 1, 1, none⟩ (.int .i64 q)).frozen? ⟨w.heap.size + 1, 0, none⟩ = false := by simp [go_sem, fD0]
    replace D1 : ((wd3.setCell ⟨w.heap.size + 1, 0, none⟩ (.int .i64 (m - q))).setCell ⟨w.heap.size + 1, 1, none⟩ (.int .i64 q)).cell? ⟨w.heap.size + 1, 1, none⟩ = some (.int .i64 q) := by simp [go_sem, D1]
    replace fD1 : ((wd3.setCell ⟨w.heap.size + 1, 0, none⟩ (.int .i64 (m - q))).setCell ⟨w.heap.size + 1, 1, none⟩ (.int .i64 q)).frozen? ⟨w.heap.size + 1, 1, none⟩ = false := by simp [go_sem, fD1]
    replace L0 : ((wd3.setCell ⟨w.heap.size + 1, 0, none⟩ (.int .i64 (m - q))).setCell ⟨w.heap.size + 1, 1, none⟩ (.int .i64 q)).cell? ⟨w.heap.size + 1 + 1, 0, none⟩ = some (.int .i64 0) := ((World.cell?_setCell_other _ _ _ _ (by intro e; injection e with e1 e2; omega)).trans ((World.cell?_setCell_other _ _ _ _ (by intro e; injection e with e1 e2; omega)).trans L0))
    replace fL0 : ((wd3.setCell ⟨w.heap.size + 1, 0, none⟩ (.int .i64 (m - q))).setCell ⟨w.heap.size + 1, 1, none⟩ (.int .i64 q)).frozen? ⟨w.heap.size + 1 + 1, 0, none⟩ = false := by simp [go_sem, fL0]
    replace L1 : ((wd3.setCell ⟨w.heap.size + 1, 0, none⟩ (.int .i64 (m - q))).setCell ⟨w.heap.size + 1, 1, none⟩ (.int .i64 q)).cell? ⟨w.heap.size + 1 + 1, 1, none⟩ = some (.int .i64 0) := ((World.cell?_setCell_other _ _ _ _ (by intro e; injection e with e1 e2; omega)).trans ((World.cell?_setCell_other _ _ _ _ (by intro e; injection e with e1 e2; omega)).trans L1))
    replace fL1 : ((wd3.setCell ⟨w.heap.size + 1, 0, none⟩ (.int .i64 (m - q))).setCell ⟨w.heap.size + 1, 1, none⟩ (.int .i64 q)).frozen? ⟨w.heap.size + 1 + 1, 1, none⟩ = false := by simp [go_sem, fL1]
    replace Q0 : ((wd3.setCell ⟨w.heap.size + 1, 0, none⟩ (.int .i64 (m - q))).setCell ⟨w.heap.size + 1, 1, none⟩ (.int .i64 q)).cell? ⟨q2, 0, none⟩ = some (.int .i64 (m - q)) := ((World.cell?_setCell_other _ _ _ _ (by intro e; injection e with e1 e2; omega)).trans ((World.cell?_setCell_other _ _ _ _ (by intro e; injection e with e1 e2; omega)).trans Q0))
    replace Q1 : ((wd3.setCell ⟨w.heap.size + 1, 0, none⟩ (.int .i64 (m - q))).setCell ⟨w.heap.size + 1, 1, none⟩ (.int .i64 q)).cell? ⟨q2, 1, none⟩ = some (.int .i64 q) := ((World.cell?_setCell_other _ _ _ _ (by intro e; injection e with e1 e2; omega)).trans ((World.cell?_setCell_other _ _ _ _ (by intro e; injection e with e1 e2; omega)).trans Q1))
    replace nX : w.heap.size < ((wd3.setCell ⟨w.heap.size + 1, 0, none⟩ (.int .i64 (m - q))).setCell ⟨w.heap.size + 1, 1, none⟩ (.int .i64 q)).heap.size := by simpa [World.setCell] using nX
    replace nD : w.heap.size + 1 < ((wd3.setCell ⟨w.heap.size + 1, 0, none⟩ (.int .i64 (m - q))).setCell ⟨w.heap.size + 1, 1, none⟩ (.int .i64 q)).heap.size := by simpa [World.setCell] using nD
    replace nL : w.heap.size + 1 + 1 < ((wd3.setCell ⟨w.heap.size + 1, 0, none⟩ (.int .i64 (m - q))).setCell ⟨w.heap.size + 1, 1, none⟩ (.int .i64 q)).heap.size := by simpa [World.setCell] using nL
    replace nQ : q2 < ((wd3.setCell ⟨w.heap.size + 1, 0, none⟩ (.int .i64 (m - q))).setCell ⟨w.heap.size + 1, 1, none⟩ (.int .i64 q)).heap.size := by simpa [World.setCell] using nQ
    replace hL := hL.setCell (p := ⟨w.heap.size + 1, 0, none⟩) (by show w.heap.size ≤ w.heap.size + 1; omega) (.int .i64 (m - q))
    replace hL := hL.setCell (p := ⟨w.heap.size + 1, 1, none⟩) (by show w.heap.size ≤ w.heap.size + 1; omega) (.int .i64 q)
    refine hK.out _ _ ⟨X0, X1, Q0, Q1, trivial⟩ (fun hHeld => ?_)
    clear hK K
    try simp only [Act.put, List.setIfInBounds_toArray, List.set_cons_zero, List.set_cons_succ]
    refine wpAnyH_ready (rs := [13]) (by kernel_rfl) (by simp) ?_
    refine AllReadyH.cons rfl (fun K hK => ?_) AllReadyH.nil
    go_simp
    replace X0 : ((((wd3.setCell ⟨w.heap.size + 1, 0, none⟩ (.int .i64 (m - q))).setCell ⟨w.heap.size + 1, 1, none⟩ (.int .i64 q)).setCell ⟨w.heap.size + 1 + 1, 0, none⟩ (.int .i64 (a - (m - q)))).setCell ⟨w.heap.size + 1 + 1, 1, none⟩ (.int .i64 (s - q))).cell? ⟨w.heap.size, 0, none⟩ = some (.int .i64 a) := ((World.cell?_setCell_other _ _ _ _ (by intro e; injection e with e1 e2; omega)).trans ((World.cell?_setCell_other _ _ _ _ (by intro e; injection e with e1 e2; omega)).trans X0))
    replace X1 : ((((wd3.setCell ⟨w.heap.size + 1, 0, none⟩ (.int .i64 (m - q))).setCell ⟨w.heap.size + 1, 1, none⟩ (.int .i64 q)).setCell ⟨w.heap.size + 1 + 1, 0, none⟩ (.int .i64 (a - (m - q)))).setCell ⟨w.heap.size + 1 + 1, 1, none⟩ (.int .i64 (s - q))).cell? ⟨w.heap.size, 1, none⟩ = some (.int .i64 s) := ((World.cell?_setCell_other _ _ _ _ (by intro e; injection e with e1 e2; omega)).trans ((World.cell?_setCell_other _ _ _ _ (by intro e; injection e with e1 e2; omega)).trans X1))
    replace D0 : ((((wd3.setCell ⟨w.heap.size + 1, 0, none⟩ (.int .i64 (m - q))).setCell ⟨w.heap.size + 1, 1, none⟩ (.int .i64 q)).setCell ⟨w.heap.size + 1 + 1, 0, none⟩ (.int .i64 (a - (m - q)))).setCell ⟨w.heap.size + 1 + 1, 1, none⟩ (.int .i64 (s - q))).cell? ⟨w.heap.size + 1, 0, none⟩ = some (.int .i64 (m - q)) := ((World.cell?_setCell_other _ _ _ _ (by intro e; injection e with e1 e2; omega)).trans ((World.cell?_setCell_other _ _ _ _ (by intro e; injection e with e1 e2; omega)).trans D0))
    replace fD0 : ((((wd3.setCell ⟨w.heap.size + 1, 0, none⟩ (.int .i64 (m - q))).setCell ⟨w.heap.size + 1, 1, none⟩ (.int .i64 q)).setCell ⟨w.heap.size + 1 + 1, 0, none⟩ (.int .i64 (a - (m - q)))).setCell ⟨w.heap.size + 1 + 1, 1, none⟩ (.int .i64 (s - q))).frozen? ⟨w.heap.size + 1, 0, none⟩ = false := by simp [go_sem, fD0]
    replace D1 : ((((wd3.setCell ⟨w.heap.size + 1, 0, none⟩ (.int .i64 (m - q))).setCell ⟨w.heap.size + 1, 1, none⟩ (.int .i64 q)).setCell ⟨w.heap.size + 1 + 1, 0, none⟩ (.int .i64 (a - (m - q)))).setCell ⟨w.heap.size + 1 + 1, 1, none⟩ (.int .i64 (s - q))).cell? ⟨w.heap.size + 1, 1, none⟩ = some (.int .i64 q) := ((World.cell?_setCell_other _ _ _ _ (by intro e; injection e with e1 e2; omega)).trans ((World.cell?_setCell_other _ _ _ _ (by intro e; injection e with e1 e2; omega)).trans D1))
    replace fD1 : ((((wd3.setCell ⟨w.heap.size + 1, 0, none⟩ (.int .i64 (m - q))).setCell ⟨w.heap.size + 1, 1, none⟩ (.int .i64 q)).setCell ⟨w.heap.size + 1 + 1, 0, none⟩ (.int .i64 (a - (m - q)))).setCell ⟨w.heap.size + 1 + 1, 1, none⟩ (.int .i64 (s - q))).frozen? ⟨w.heap.size + 1, 1, none⟩ = false := by simp [go_sem, fD1]
    replace L0 : ((((wd3.setCell ⟨w.heap.size + 1, 0, none⟩ (.int .i64 (m - q))).setCell ⟨w.heap.size + 1, 1, none⟩ (.int .i64 q)).setCell ⟨w.heap.size + 1 + 1, 0, none⟩ (.int .i64 (a - (m - q)))).setCell ⟨w.heap.size + 1 + 1, 1, none⟩ (.int .i64 (s - q))).cell? ⟨w.heap.size + 1 + 1, 0, none⟩ = some (.int .i64 (a - (m - q))) := by simp [go_sem, L0]
    replace fL0 : ((((wd3.setCell ⟨w.heap.size + 1, 0, none⟩ (.int .i64 (m - q))).setCell ⟨w.heap.size + 1, 1, none⟩ (.int .i64 q)).setCell ⟨w.heap.size + 1 + 1, 0, none⟩ (.int .i64 (a - (m - q)))).setCell ⟨w.heap.size + 1 + 1, 1, none⟩ (.int .i64 (s - q))).frozen? ⟨w.heap.size + 1 + 1, 0, none⟩ = false := by simp [go_sem, fL0]
    replace L1 : ((((wd3.setCell ⟨w.heap.size + 1, 0, none⟩ (.int .i64 (m - q))).setCell ⟨w.heap.size + 1, 1, none⟩ (.int .i64 q)).setCell ⟨w.heap.size + 1 + 1, 0, none⟩ (.int .i64 (a - (m - q)))).setCell ⟨w.heap.size + 1 + 1, 1, none⟩ (.int .i64 (s - q))).cell? ⟨w.heap.size + 1 + 1, 1, none⟩ = some (.int .i64 (s - q)) := by simp [go_sem, L1]
    replace fL1 : ((((wd3.setCell ⟨w.heap.size + 1, 0, none⟩ (.int .i64 (m - q))).setCell ⟨w.heap.size + 1, 1, none⟩ (.int .i64 q)).setCell ⟨w.heap.size + 1 + 1, 0, none⟩ (.int .i64 (a - (m - q)))).setCell ⟨w.heap.size + 1 + 1, 1, none⟩ (.int .i64 (s - q))).frozen? ⟨w.heap.size + 1 + 1, 1, none⟩ = false := by simp [go_sem, fL1]
    replace Q0 : ((((wd3.setCell ⟨w.heap.size + 1, 0, none⟩ (.int .i64 (m - q))).setCell ⟨w.heap.size + 1, 1, none⟩ (.int .i64 q)).setCell ⟨w.heap.size + 1 + 1, 0, none⟩ (.int .i64 (a - (m - q)))).setCell ⟨w.heap.size + 1 + 1, 1, none⟩ (.int .i64 (s - q))).cell? ⟨q2, 0, none⟩ = some (.int .i64 (m - q)) := ((World.cell?_setCell_other _ _ _ _ (by intro e; injection e with e1 e2; omega)).trans ((World.cell?_setCell_other _ _ _ _ (by intro e; injection e with e1 e2; omega)).trans Q0))
    replace Q1 : ((((wd3.setCell ⟨w.heap.size + 1, 0, none⟩ (.int .i64 (m - q))).setCell ⟨w.heap.size + 1, 1, none⟩ (.int .i64 q)).setCell ⟨w.heap.size + 1 + 1, 0, none⟩ (.int .i64 (a - (m - q)))).setCell ⟨w.heap.size + 1 + 1, 1, none⟩ (.int .i64 (s - q))).cell? ⟨q2, 1, none⟩ = some (.int .i64 q) := ((World.cell?_setCell_other _ _ _ _ (by intro e; injection e with e1 e2; omega)).trans ((World.cell?_setCell_other _ _ _ _ (by intro e; injection e with e1 e2; omega)).trans Q1))
    replace nX : w.heap.size < ((((wd3.setCell ⟨w.heap.size + 1, 0, none⟩ (.int .i64 (m - q))).setCell ⟨w.heap.size + 1, 1, none⟩ (.int .i64 q)).setCell ⟨w.heap.size + 1 + 1, 0, none⟩ (.int .i64 (a - (m - q)))).setCell ⟨w.heap.size + 1 + 1, 1, none⟩ (.int .i64 (s - q))).heap.size := by simpa [World.setCell] using nX
    replace nD : w.heap.size + 1 < ((((wd3.setCell ⟨w.heap.size + 1, 0, none⟩ (.int .i64 (m - q))).setCell ⟨w.heap.size + 1, 1, none⟩ (.int .i64 q)).setCell ⟨w.heap.size + 1 + 1, 0, none⟩ (.int .i64 (a - (m - q)))).setCell ⟨w.heap.size + 1 + 1, 1, none⟩ (.int .i64 (s - q))).heap.size := by simpa [World.setCell] using nD
    replace nL : w.heap.size + 1 + 1 < ((((wd3.setCell ⟨w.heap.size + 1, 0, none⟩ (.int .i64 (m - q))).setCell ⟨w.heap.size + 1, 1, none⟩ (.int .i64 q)).setCell ⟨w.heap.size + 1 + 1, 0, none⟩ (.int .i64 (a - (m - q)))).setCell ⟨w.heap.size + 1 + 1, 1, none⟩ (.int .i64 (s - q))).heap.size := by simpa [World.setCell] using nL
    replace nQ : q2 < ((((wd3.setCell ⟨w.heap.size + 1, 0, none⟩ (.int .i64 (m - q))).setCell ⟨w.heap.size + 1, 1, none⟩ (.int .i64 q)).setCell ⟨w.heap.size + 1 + 1, 0, none⟩ (.int .i64 (a - (m - q)))).setCell ⟨w.heap.size + 1 + 1, 1, none⟩ (.int .i64 (s - q))).heap.size := by simpa [World.setCell] using nQ
    replace hL := hL.setCell (p := ⟨w.heap.size + 1 + 1, 0, none⟩) (by show w.heap.size ≤ w.heap.size + 1 + 1; omega) (.int .i64 (a - (m - q)))
    replace hL := hL.setCell (p := ⟨w.heap.size + 1 + 1, 1, none⟩) (by show w.heap.size ≤ w.heap.size + 1 + 1; omega) (.int .i64 (s - q))
    refine hK.out _ _ ⟨X0, X1, Q0, Q1, trivial⟩ (fun hHeld => ?_)
    clear hK K
    try simp only [Act.put, List.setIfInBounds_toArray, List.set_cons_zero, List.set_cons_succ]
    refine wpAnyH_done (by kernel_rfl) ?_ _
    replace hB := hB.trans hL
    clear hHeld hL hBW
    go_wp2_with fail
    refine bodyPost_ret (v := .tuple #[.agg #[.int .i64 (m - q), .int .i64 q], .agg #[.int .i64 (a - (m - q)), .int .i64 (s - q)]]) (by simp [results, Try.results63, go_sem, *]) rfl ⟨rfl, ?_⟩
    repeat (first | with_reducible exact hB | with_reducible refine Below.drew ?_ | (with_reducible refine Below.setCell ?_ ?hp _; case hp => simp <;> omega))
end Go.Proofs.Ytclnfncdphfgjaa
