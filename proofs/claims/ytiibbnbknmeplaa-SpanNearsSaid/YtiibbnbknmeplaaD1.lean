/- Contracts: the ranges of differences, products and quotients. -/
import Derived.Test.YtiibbnbknmeplaaD65
import Derived.Test.YtiibbnbknmeplaaC6
import Derived.Test.YtiibbnbknmeplaaT1
namespace Go.Proofs.Ytiibbnbknmeplaa
open Go.RowKit Go.Lib Go.Shelf
set_option linter.unusedVariables false
set_option linter.unusedSimpArgs false
attribute [local go_sem ↓] Go.wp_at_zero Go.wp_at_succ

theorem keep4 {w W W' : World} {x0 x1 y0 y1 : Option Value} (hb : Below W.heap.size W W') (h : W.cell? ⟨w.heap.size, 0, none⟩ = x0 ∧ W.cell? ⟨w.heap.size, 1, none⟩ = x1 ∧ W.cell? ⟨w.heap.size + 1, 0, none⟩ = y0 ∧ W.cell? ⟨w.heap.size + 1, 1, none⟩ = y1 ∧ Kp (w.heap.size + 1 + 1) w W) :
    W'.cell? ⟨w.heap.size, 0, none⟩ = x0 ∧ W'.cell? ⟨w.heap.size, 1, none⟩ = x1 ∧ W'.cell? ⟨w.heap.size + 1, 0, none⟩ = y0 ∧ W'.cell? ⟨w.heap.size + 1, 1, none⟩ = y1 ∧ Kp (w.heap.size + 1 + 1) w W' := by
  obtain ⟨h1, h2, h3, h4, h5⟩ := h
  have := h5.2.1
  exact ⟨cell_next hb (by omega) h1, cell_next hb (by omega) h2, cell_next hb (by omega) h3, cell_next hb (by omega) h4, h5.next h5.1.size hb⟩
theorem keep4_set {w W : World} {x0 x1 y0 y1 : Option Value} {u v : Value} (hw : w.heap.size ≤ w.heap.size + 1 + 1) (h : W.cell? ⟨w.heap.size, 0, none⟩ = x0 ∧ W.cell? ⟨w.heap.size, 1, none⟩ = x1 ∧ W.cell? ⟨w.heap.size + 1, 0, none⟩ = y0 ∧ W.cell? ⟨w.heap.size + 1, 1, none⟩ = y1 ∧ Kp (w.heap.size + 1 + 1) w W) :
    ((W.setCell ⟨w.heap.size + 1 + 1, 0, none⟩ u).setCell ⟨w.heap.size + 1 + 1, 1, none⟩ v).cell? ⟨w.heap.size, 0, none⟩ = x0 ∧ ((W.setCell ⟨w.heap.size + 1 + 1, 0, none⟩ u).setCell ⟨w.heap.size + 1 + 1, 1, none⟩ v).cell? ⟨w.heap.size, 1, none⟩ = x1 ∧
    ((W.setCell ⟨w.heap.size + 1 + 1, 0, none⟩ u).setCell ⟨w.heap.size + 1 + 1, 1, none⟩ v).cell? ⟨w.heap.size + 1, 0, none⟩ = y0 ∧ ((W.setCell ⟨w.heap.size + 1 + 1, 0, none⟩ u).setCell ⟨w.heap.size + 1 + 1, 1, none⟩ v).cell? ⟨w.heap.size + 1, 1, none⟩ = y1 ∧ Kp (w.heap.size + 1 + 1) w ((W.setCell ⟨w.heap.size + 1 + 1, 0, none⟩ u).setCell ⟨w.heap.size + 1 + 1, 1, none⟩ v) := by
  obtain ⟨h1, h2, h3, h4, h5⟩ := h
  refine ⟨?_, ?_, ?_, ?_, h5.set hw u v⟩
  · rw [World.cell?_setCell_other _ _ _ _ (by intro e; injection e; omega), World.cell?_setCell_other _ _ _ _ (by intro e; injection e; omega)]; exact h1
  · rw [World.cell?_setCell_other _ _ _ _ (by intro e; injection e; omega), World.cell?_setCell_other _ _ _ _ (by intro e; injection e; omega)]; exact h2
  · rw [World.cell?_setCell_other _ _ _ _ (by intro e; injection e; omega), World.cell?_setCell_other _ _ _ _ (by intro e; injection e; omega)]; exact h3
  · rw [World.cell?_setCell_other _ _ _ _ (by intro e; injection e; omega), World.cell?_setCell_other _ _ _ _ (by intro e; injection e; omega)]; exact h4
theorem row6 (W : World) (T : TypeId) (p q r : Int × Int) : RRd (W.alloc (.cells #[.int .i64 p.1, .int .i64 p.2, .int .i64 q.1, .int .i64 q.2, .int .i64 r.1, .int .i64 r.2] T)) W.heap.size 0 [p, q, r] := by
  intro k z hz
  rcases k with _ | _ | _ | k
  · simp at hz; subst hz; exact ⟨cell_new _ _ _ _, cell_new _ _ _ _⟩
  · simp at hz; subst hz; exact ⟨cell_new _ _ _ _, cell_new _ _ _ _⟩
  · simp at hz; subst hz; exact ⟨cell_new _ _ _ _, cell_new _ _ _ _⟩
  · simp at hz

/-- what a quotient is around -/
def arP (a b c : Int) : Int × Int := (qLo a b c, qHi a b c)

set_option maxHeartbeats 400000 in
theorem times1_any (x y : Int) (hx : I64 x) (hy : I64 y) (w : World) :
    Calls Try.prog 103 #[.int .i64 x, .int .i64 y] w fun e w' => e = .returned (.agg #[.int .i64 (arP x y 1).1, .int .i64 (arP x y 1).2]) ∧ Below w.heap.size w w' := by
  have c1 : Hid (∀ w : World, Calls Try.prog 100 #[.agg #[.int .i64 x, .int .i64 y, .int .i64 1]] w fun e w' => e = .returned (.agg #[.int .i64 (arP x y 1).1, .int .i64 (arP x y 1).2]) ∧ Below w.heap.size w w') := Lib.hid (around_of x y 1 (divide_any x y 1 hx hy ⟨by omega, by omega⟩ (by omega)))
  generalize arP x y 1 = p at *
  go_enter Try.func103, Try.ntmps103
  go_wp2_with fail
  refine (quotientOf2 x y _ _ (by simp) (by simp) (by simp)).mono ?_
  rintro e w1 ⟨rfl, hb1⟩
  have d0 := cell_next hb1 (b := w.heap.size) (o := 0) (by simp <;> omega) (v := some (.int .i64 0)) (by simp [go_sem])
  have d1 := cell_next hb1 (b := w.heap.size) (o := 1) (by simp <;> omega) (v := some (.int .i64 0)) (by simp [go_sem])
  have e0 := frozen_next hb1 (b := w.heap.size) (o := 0) (by simp <;> omega) (v := false) (by simp [go_sem])
  have e1 := frozen_next hb1 (b := w.heap.size) (o := 1) (by simp <;> omega) (v := false) (by simp [go_sem])
  have hB := below2 hb1
  have hz : w.heap.size < w1.heap.size := by have := hb1.size; simp at this; omega
  clear hb1
  go_wp2_with fail
  refine (c1.out _).mono ?_
  rintro e w2 ⟨rfl, hb2⟩
  replace d0 := cell_next hb2 hz d0
  replace d1 := cell_next hb2 hz d1
  replace e0 := frozen_next hb2 hz e0
  replace e1 := frozen_next hb2 hz e1
  replace hB := hB.trans (hb2.mono hB.size)
  clear hb2
  go_wp2_with fail
  refine bodyPost_ret (v := .agg #[.int .i64 p.1, .int .i64 p.2]) (by simp [results, Try.results103, go_sem, d0, d1, e0, e1]) rfl ⟨rfl, ?_⟩
  exact (hB.setCell (p := ⟨w.heap.size, 0, none⟩) (Nat.le_refl _) _).setCell (p := ⟨w.heap.size, 1, none⟩) (Nat.le_refl _) _
set_option maxHeartbeats 400000 in
theorem over1_any (x y : Int) (hx : I64 x) (hy : I64 y) (h0 : y ≠ 0) (w : World) :
    Calls Try.prog 105 #[.int .i64 x, .int .i64 y] w fun e w' => e = .returned (.agg #[.int .i64 (arP x 1 y).1, .int .i64 (arP x 1 y).2]) ∧ Below w.heap.size w w' := by
  have c1 : Hid (∀ w : World, Calls Try.prog 100 #[.agg #[.int .i64 x, .int .i64 1, .int .i64 y]] w fun e w' => e = .returned (.agg #[.int .i64 (arP x 1 y).1, .int .i64 (arP x 1 y).2]) ∧ Below w.heap.size w w') := Lib.hid (around_of x 1 y (divide_any x 1 y hx ⟨by omega, by omega⟩ hy h0))
  generalize arP x 1 y = p at *
  clear h0
  go_enter Try.func105, Try.ntmps105
  go_wp2_with fail
  refine (quotientOf3 x 1 y _ _ (by simp) (by simp) (by simp) (by simp)).mono ?_
  rintro e w1 ⟨rfl, hb1⟩
  have d0 := cell_next hb1 (b := w.heap.size) (o := 0) (by simp <;> omega) (v := some (.int .i64 0)) (by simp [go_sem])
  have d1 := cell_next hb1 (b := w.heap.size) (o := 1) (by simp <;> omega) (v := some (.int .i64 0)) (by simp [go_sem])
  have e0 := frozen_next hb1 (b := w.heap.size) (o := 0) (by simp <;> omega) (v := false) (by simp [go_sem])
  have e1 := frozen_next hb1 (b := w.heap.size) (o := 1) (by simp <;> omega) (v := false) (by simp [go_sem])
  have hB := below2 hb1
  have hz : w.heap.size < w1.heap.size := by have := hb1.size; simp at this; omega
  clear hb1
  go_wp2_with fail
  refine (c1.out _).mono ?_
  rintro e w2 ⟨rfl, hb2⟩
  replace d0 := cell_next hb2 hz d0
  replace d1 := cell_next hb2 hz d1
  replace e0 := frozen_next hb2 hz e0
  replace e1 := frozen_next hb2 hz e1
  replace hB := hB.trans (hb2.mono hB.size)
  clear hb2
  go_wp2_with fail
  refine bodyPost_ret (v := .agg #[.int .i64 p.1, .int .i64 p.2]) (by simp [results, Try.results105, go_sem, d0, d1, e0, e1]) rfl ⟨rfl, ?_⟩
  exact (hB.setCell (p := ⟨w.heap.size, 0, none⟩) (Nat.le_refl _) _).setCell (p := ⟨w.heap.size, 1, none⟩) (Nat.le_refl _) _
theorem enters_times1 : ∀ args w, (callFunc 103 args).run Try.prog w = .ok (.enter 103 args) w := enters_of Try.func103 (by kernel_rfl) rfl
theorem enters_over1 : ∀ args w, (callFunc 105 args).run Try.prog w = .ok (.enter 105 args) w := enters_of Try.func105 (by kernel_rfl) rfl

/-- a function of two numbers at one pair of them -/
def At2 (F : Nat) (x y : Int) (p : Int × Int) : Prop := ∀ w : World, Calls Try.prog F #[.int .i64 x, .int .i64 y] w fun e w' => e = .returned (.agg #[.int .i64 p.1, .int .i64 p.2]) ∧ Below w.heap.size w w'

set_option maxRecDepth 40000 in
set_option maxHeartbeats 2000000 in
theorem corners_any (F : Nat) (hE : ∀ args w, (callFunc F args).run Try.prog w = .ok (.enter F args) w) (a1 a2 b1 b2 : Int) (p11 p12 p21 p22 : Int × Int) (h11 : At2 F a1 b1 p11) (h12 : At2 F a1 b2 p12) (h21 : At2 F a2 b1 p21) (h22 : At2 F a2 b2 p22) (w : World) :
    Calls Try.prog 102 #[.agg #[.int .i64 a1, .int .i64 a2], .agg #[.int .i64 b1, .int .i64 b2], .func (Fn.func F) #[] #[]] w fun e w' =>
      e = .returned (.agg #[.int .i64 ([p12, p21, p22].foldl hullJ p11).1, .int .i64 ([p12, p21, p22].foldl hullJ p11).2]) ∧ Below w.heap.size w w' := by
  have c11 := Lib.hid h11
  have c12 := Lib.hid h12
  have c21 := Lib.hid h21
  have c22 := Lib.hid h22
  clear h11 h12 h21 h22
  unfold At2 at c11 c12 c21 c22
  go_enter Try.func102, Try.ntmps102
  go_wp2_with fail
  have hS : (((w.alloc (.cells #[.int .i64 a1, .int .i64 a2] 24)).alloc (.cells #[.int .i64 b1, .int .i64 b2] 24)).alloc (.cells #[.int .i64 0, .int .i64 0] 24)).cell? ⟨w.heap.size, 0, none⟩ = some (.int .i64 a1) ∧ (((w.alloc (.cells #[.int .i64 a1, .int .i64 a2] 24)).alloc (.cells #[.int .i64 b1, .int .i64 b2] 24)).alloc (.cells #[.int .i64 0, .int .i64 0] 24)).cell? ⟨w.heap.size, 1, none⟩ = some (.int .i64 a2) ∧ (((w.alloc (.cells #[.int .i64 a1, .int .i64 a2] 24)).alloc (.cells #[.int .i64 b1, .int .i64 b2] 24)).alloc (.cells #[.int .i64 0, .int .i64 0] 24)).cell? ⟨w.heap.size + 1, 0, none⟩ = some (.int .i64 b1) ∧ (((w.alloc (.cells #[.int .i64 a1, .int .i64 a2] 24)).alloc (.cells #[.int .i64 b1, .int .i64 b2] 24)).alloc (.cells #[.int .i64 0, .int .i64 0] 24)).cell? ⟨w.heap.size + 1, 1, none⟩ = some (.int .i64 b2) ∧ Kp (w.heap.size + 1 + 1) w (((w.alloc (.cells #[.int .i64 a1, .int .i64 a2] 24)).alloc (.cells #[.int .i64 b1, .int .i64 b2] 24)).alloc (.cells #[.int .i64 0, .int .i64 0] 24)) := by
    refine ⟨by simp [go_sem], by simp [go_sem], by simp [go_sem], by simp [go_sem], (((Below.refl _ _).alloc (Nat.le_refl _) _).alloc (by simp) _).alloc (by simp; omega) _, by simp, ⟨_, by simp [go_sem]; rfl⟩, ⟨_, by simp [go_sem]; rfl⟩, by simp [go_sem], by simp [go_sem]⟩
  refine wp_region_held_drew (S := fun W' => W'.cell? ⟨w.heap.size, 0, none⟩ = some (.int .i64 a1) ∧ W'.cell? ⟨w.heap.size, 1, none⟩ = some (.int .i64 a2) ∧ W'.cell? ⟨w.heap.size + 1, 0, none⟩ = some (.int .i64 b1) ∧ W'.cell? ⟨w.heap.size + 1, 1, none⟩ = some (.int .i64 b2) ∧ Kp (w.heap.size + 1 + 1) w W') (by kernel_rfl) ?_ (fun hHeld => ?_)
  focus (exact keep4 (Below.drew (Below.refl _ _)) hS)
  generalize (((w.alloc _).alloc _).alloc _).drew = wd at hHeld ⊢
  refine take_slot (i := 0) (d := 7) (v := ?_) rfl rfl (by kernel_rfl) (by kernel_rfl) (by kernel_rfl) (fun _ _ _ h => h) (Or.inl ⟨by rfl, ?_⟩) (by assumption) ?_
  rotate_left 1
  focus (intro wS hSw; (try dsimp only at hSw); go_simp; try with_reducible rfl)
  try simp only [List.setIfInBounds_toArray, List.set_cons_zero, List.set_cons_succ]
  refine take_slot (i := 1) (d := 8) (v := ?_) rfl rfl (by kernel_rfl) (by kernel_rfl) (by kernel_rfl) (fun _ _ _ h => h) (Or.inl ⟨by rfl, ?_⟩) (by assumption) ?_
  rotate_left 1
  focus (intro wS hSw; (try dsimp only at hSw); go_simp; try with_reducible rfl)
  try simp only [List.setIfInBounds_toArray, List.set_cons_zero, List.set_cons_succ]
  refine take_slot (i := 2) (d := 9) (v := ?_) rfl rfl (by kernel_rfl) (by kernel_rfl) (by kernel_rfl) (fun _ _ _ h => h) (Or.inl ⟨by rfl, ?_⟩) (by assumption) ?_
  rotate_left 1
  focus (intro wS hSw; (try dsimp only at hSw); go_simp; try with_reducible rfl)
  try simp only [List.setIfInBounds_toArray, List.set_cons_zero, List.set_cons_succ]
  refine take_slot (i := 3) (d := 10) (v := ?_) rfl rfl (by kernel_rfl) (by kernel_rfl) (by kernel_rfl) (fun _ _ _ h => h) (Or.inl ⟨by rfl, ?_⟩) (by assumption) ?_
  rotate_left 1
  focus (intro wS hSw; (try dsimp only at hSw); go_simp; try with_reducible rfl)
  try simp only [List.setIfInBounds_toArray, List.set_cons_zero, List.set_cons_succ]
  refine take_slot (i := 4) (d := 11) (v := ?_) rfl rfl (by kernel_rfl) (by kernel_rfl) (by kernel_rfl) (fun _ _ _ h => h) (Or.inl ⟨by rfl, ?_⟩) (by assumption) ?_
  rotate_left 1
  focus (intro wS hSw; (try dsimp only at hSw); go_simp; try with_reducible rfl)
  try simp only [List.setIfInBounds_toArray, List.set_cons_zero, List.set_cons_succ]
  refine take_slot (i := 6) (d := 13) (v := ?_) rfl rfl (by kernel_rfl) (by kernel_rfl) (by kernel_rfl) (fun _ _ _ h => h) (Or.inl ⟨by rfl, ?_⟩) (by assumption) ?_
  rotate_left 1
  focus (intro wS hSw; (try dsimp only at hSw); go_simp; try with_reducible rfl)
  try simp only [List.setIfInBounds_toArray, List.set_cons_zero, List.set_cons_succ]
  refine take_slot (i := 7) (d := 14) (v := ?_) rfl rfl (by kernel_rfl) (by kernel_rfl) (by kernel_rfl) (fun _ _ _ h => h) (Or.inl ⟨by rfl, ?_⟩) (by assumption) ?_
  rotate_left 1
  focus (intro wS hSw; (try dsimp only at hSw); go_simp; try with_reducible rfl)
  try simp only [List.setIfInBounds_toArray, List.set_cons_zero, List.set_cons_succ]
  refine take_slot (i := 8) (d := 15) (v := ?_) rfl rfl (by kernel_rfl) (by kernel_rfl) (by kernel_rfl) (fun _ _ _ h => h) (Or.inl ⟨by rfl, ?_⟩) (by assumption) ?_
  rotate_left 1
  focus (intro wS hSw; (try dsimp only at hSw); go_simp; try with_reducible rfl)
  try simp only [List.setIfInBounds_toArray, List.set_cons_zero, List.set_cons_succ]
  refine take_slot (i := 9) (d := 16) (v := ?_) rfl rfl (by kernel_rfl) (by kernel_rfl) (by kernel_rfl) (fun _ _ _ h => h) (Or.inl ⟨by rfl, ?_⟩) (by assumption) ?_
  rotate_left 1
  focus (intro wS hSw; (try dsimp only at hSw); go_simp; try with_reducible rfl)
  try simp only [List.setIfInBounds_toArray, List.set_cons_zero, List.set_cons_succ]
  refine take_slot (i := 10) (d := 17) (v := ?_) rfl rfl (by kernel_rfl) (by kernel_rfl) (by kernel_rfl) (fun _ _ _ h => h) (Or.inl ⟨by rfl, ?_⟩) (by assumption) ?_
  rotate_left 1
  focus (intro wS hSw; (try dsimp only at hSw); go_simp; try with_reducible rfl)
  try simp only [List.setIfInBounds_toArray, List.set_cons_zero, List.set_cons_succ]
  refine take_slot (i := 12) (d := 19) (v := ?_) rfl rfl (by kernel_rfl) (by kernel_rfl) (by kernel_rfl) (fun _ _ _ h => h) (Or.inl ⟨by rfl, ?_⟩) (by assumption) ?_
  rotate_left 1
  focus (intro wS hSw; (try dsimp only at hSw); go_simp; try with_reducible rfl)
  try simp only [List.setIfInBounds_toArray, List.set_cons_zero, List.set_cons_succ]
  refine take_slot (i := 13) (d := 20) (v := ?_) rfl rfl (by kernel_rfl) (by kernel_rfl) (by kernel_rfl) (fun _ _ _ h => h) (Or.inl ⟨by rfl, ?_⟩) (by assumption) ?_
  rotate_left 1
  focus (intro wS hSw; (try dsimp only at hSw); go_simp; try with_reducible rfl)
  try simp only [List.setIfInBounds_toArray, List.set_cons_zero, List.set_cons_succ]
  refine take_slot (i := 14) (d := 21) (v := ?_) rfl rfl (by kernel_rfl) (by kernel_rfl) (by kernel_rfl) (fun _ _ _ h => h) (Or.inl ⟨by rfl, ?_⟩) (by assumption) ?_
  rotate_left 1
  focus (intro wS hSw; (try dsimp only at hSw); go_simp; try with_reducible rfl)
  try simp only [List.setIfInBounds_toArray, List.set_cons_zero, List.set_cons_succ]
  refine take_slot (i := 15) (d := 22) (v := ?_) rfl rfl (by kernel_rfl) (by kernel_rfl) (by kernel_rfl) (fun _ _ _ h => h) (Or.inl ⟨by rfl, ?_⟩) (by assumption) ?_
  rotate_left 1
  focus (intro wS hSw; (try dsimp only at hSw); go_simp; try with_reducible rfl)
  try simp only [List.setIfInBounds_toArray, List.set_cons_zero, List.set_cons_succ]
  refine take_slot (i := 16) (d := 23) (v := ?_) rfl rfl (by kernel_rfl) (by kernel_rfl) (by kernel_rfl) (fun _ _ _ h => h) (Or.inl ⟨by rfl, ?_⟩) (by assumption) ?_
  rotate_left 1
  focus (intro wS hSw; (try dsimp only at hSw); go_simp; try with_reducible rfl)
  try simp only [List.setIfInBounds_toArray, List.set_cons_zero, List.set_cons_succ]
  refine take_slot (i := 18) (d := 25) (v := ?_) rfl rfl (by kernel_rfl) (by kernel_rfl) (by kernel_rfl) (fun _ _ _ h => h) (Or.inl ⟨by rfl, ?_⟩) (by assumption) ?_
  rotate_left 1
  focus (intro wS hSw; (try dsimp only at hSw); go_simp; try with_reducible rfl)
  try simp only [List.setIfInBounds_toArray, List.set_cons_zero, List.set_cons_succ]
  refine take_slot (i := 19) (d := 26) (v := ?_) rfl rfl (by kernel_rfl) (by kernel_rfl) (by kernel_rfl) (fun _ _ _ h => h) (Or.inl ⟨by rfl, ?_⟩) (by assumption) ?_
  rotate_left 1
  focus (intro wS hSw; (try dsimp only at hSw); go_simp; try with_reducible rfl)
  try simp only [List.setIfInBounds_toArray, List.set_cons_zero, List.set_cons_succ]
  refine take_slot (i := 20) (d := 27) (v := ?_) rfl rfl (by kernel_rfl) (by kernel_rfl) (by kernel_rfl) (fun _ _ _ h => h) (Or.inl ⟨by rfl, ?_⟩) (by assumption) ?_
  rotate_left 1
  focus (intro wS hSw; (try dsimp only at hSw); go_simp; try with_reducible rfl)
  try simp only [List.setIfInBounds_toArray, List.set_cons_zero, List.set_cons_succ]
  refine take_slot (i := 21) (d := 28) (v := ?_) rfl rfl (by kernel_rfl) (by kernel_rfl) (by kernel_rfl) (fun _ _ _ h => h) (Or.inl ⟨by rfl, ?_⟩) (by assumption) ?_
  rotate_left 1
  focus (intro wS hSw; (try dsimp only at hSw); go_simp; try with_reducible rfl)
  try simp only [List.setIfInBounds_toArray, List.set_cons_zero, List.set_cons_succ]
  refine take_slot (i := 22) (d := 29) (v := ?_) rfl rfl (by kernel_rfl) (by kernel_rfl) (by kernel_rfl) (fun _ _ _ h => h) (Or.inl ⟨by rfl, ?_⟩) (by assumption) ?_
  rotate_left 1
  focus (intro wS hSw; (try dsimp only at hSw); go_simp; try with_reducible rfl)
  try simp only [List.setIfInBounds_toArray, List.set_cons_zero, List.set_cons_succ]
  refine wpAnyH_ready (rs := [5]) (by kernel_rfl) (by simp) ?_
  refine AllReadyH.cons rfl (fun K hK => ?_) AllReadyH.nil
  skip
  go_simp
  refine (c11.out _).mono ?_; rintro e w5 ⟨rfl, hb5⟩
  refine hK.out _ _ ?_ (fun hHeld => ?_)
  focus (exact keep4 hb5 hHeld)
  clear hK K
  try simp only [Act.put, List.setIfInBounds_toArray, List.set_cons_zero, List.set_cons_succ]
  refine wpAnyH_ready (rs := [11]) (by kernel_rfl) (by simp) ?_
  refine AllReadyH.cons rfl (fun K hK => ?_) AllReadyH.nil
  skip
  go_simp
  refine (c12.out _).mono ?_; rintro e w5 ⟨rfl, hb5⟩
  refine hK.out _ _ ?_ (fun hHeld => ?_)
  focus (exact keep4 hb5 hHeld)
  clear hK K
  try simp only [Act.put, List.setIfInBounds_toArray, List.set_cons_zero, List.set_cons_succ]
  refine wpAnyH_ready (rs := [17]) (by kernel_rfl) (by simp) ?_
  refine AllReadyH.cons rfl (fun K hK => ?_) AllReadyH.nil
  skip
  go_simp
  refine (c21.out _).mono ?_; rintro e w5 ⟨rfl, hb5⟩
  refine hK.out _ _ ?_ (fun hHeld => ?_)
  focus (exact keep4 hb5 hHeld)
  clear hK K
  try simp only [Act.put, List.setIfInBounds_toArray, List.set_cons_zero, List.set_cons_succ]
  refine wpAnyH_ready (rs := [23]) (by kernel_rfl) (by simp) ?_
  refine AllReadyH.cons rfl (fun K hK => ?_) AllReadyH.nil
  skip
  go_simp
  refine (c22.out _).mono ?_; rintro e w5 ⟨rfl, hb5⟩
  refine hK.out _ _ ?_ (fun hHeld => ?_)
  focus (exact keep4 hb5 hHeld)
  clear hK K
  try simp only [Act.put, List.setIfInBounds_toArray, List.set_cons_zero, List.set_cons_succ]
  refine wpAnyH_ready (rs := [24]) (by kernel_rfl) (by simp) ?_
  refine AllReadyH.cons rfl (fun K hK => ?_) AllReadyH.nil
  skip
  go_simp
  skip
  refine hK.out _ _ ?_ (fun hHeld => ?_)
  focus (exact keep4 ((Below.refl _ _).alloc (Nat.le_refl _) _) hHeld)
  clear hK K
  try simp only [Act.put, List.setIfInBounds_toArray, List.set_cons_zero, List.set_cons_succ]
  refine wpAnyH_ready (rs := [25]) (by kernel_rfl) (by simp) ?_
  refine AllReadyH.cons rfl (fun K hK => ?_) AllReadyH.nil
  skip
  go_simp
  refine (hull_any p11.1 p11.2 _ 0 [p12, p21, p22] 3 _ (by simp) (row6 _ _ _ _ _) (by simp)).mono ?_; rintro e w9 ⟨rfl, hb9⟩
  refine hK.out _ _ ?_ (fun hHeld => ?_)
  focus (exact keep4 hb9 hHeld)
  clear hK K
  try simp only [Act.put, List.setIfInBounds_toArray, List.set_cons_zero, List.set_cons_succ]
  refine wpAnyH_ready (rs := [26]) (by kernel_rfl) (by simp) ?_
  refine AllReadyH.cons rfl (fun K hK => ?_) AllReadyH.nil
  have hKeep := hHeld; obtain ⟨_, _, _, _, kb, ksz, ⟨v0, k0⟩, ⟨v1, k1⟩, kf0, kf1⟩ := hHeld
  go_simp
  skip
  refine hK.out _ _ ?_ (fun hHeld => ?_)
  focus (exact keep4_set (Nat.le_succ_of_le (Nat.le_succ _)) hKeep)
  clear hK K
  try simp only [Act.put, List.setIfInBounds_toArray, List.set_cons_zero, List.set_cons_succ]
  refine wpAnyH_done (by kernel_rfl) ?_ _
  obtain ⟨_, _, _, _, hkk, _⟩ := hHeld
  have hq : Hid (([p12, p21, p22].foldl hullJ p11) = [p12, p21, p22].foldl hullJ (p11.1, p11.2)) := Lib.hid rfl
  go_wp2_with fail
  refine bodyPost_ret (v := .agg #[.int .i64 ([p12, p21, p22].foldl hullJ (p11.1, p11.2)).1, .int .i64 ([p12, p21, p22].foldl hullJ (p11.1, p11.2)).2]) (by simp [results, Try.results102, go_sem, k0, k1]) rfl ⟨rfl, hkk⟩
end Go.Proofs.Ytiibbnbknmeplaa
