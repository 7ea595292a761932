/- Contracts: what Mixed returns for valid kegs; the document's example of it. -/
import Derived.Test.YtloddjjmoaljhaaE3
namespace Go.Proofs.Ytloddjjmoaljhaa
open Go.RowKit Go.Lib Go.Shelf
set_option linter.unusedVariables false
set_option linter.unusedSimpArgs false
attribute [local go_sem ↓] Go.wp_at_zero Go.wp_at_succ

set_option maxRecDepth 40000 in
set_option maxHeartbeats 2000000 in
theorem mixed_ok (vv : Value) (xs : List Kg) (w : World) (hx : xs.all kgB = true) (h0 : 0 < xs.length) (hl : xs.length ≤ 12) (hv : KsAt w.heap.size w vv xs) :
    Calls Try.prog 7 #[vv] w fun e w' => e = .returned (.tuple #[.agg (cKg (kgM xs)), .int .i64 0]) ∧ Below w.heap.size w w' := by
  have C1 : Hid (∀ W, Below w.heap.size w W → Calls Try.prog 24 #[vv] W fun e w' => e = .returned (.int .i64 0) ∧ Below W.heap.size W w') := Lib.hid (fun W h => by
    have := checkKegs_any vv xs W (by omega) ((hv.below h (Nat.le_refl _)).mono h.size)
    rw [show ckE xs = 0 from by unfold ckE; rw [if_neg (by omega), if_pos hx]] at this
    exact this)
  have C2 : Hid (∀ W, Below w.heap.size w W → Calls Try.prog 25 #[vv] W fun e w' => e = .returned (.agg (cKg (kgM xs))) ∧ Below W.heap.size W w') := Lib.hid (fun W h => poured_ok vv xs W hx h0 hl ((hv.below h (Nat.le_refl _)).mono h.size))
  obtain ⟨A, c, rfl, hlc, hr⟩ := hv
  generalize kgM xs = r at *
  obtain ⟨ra, rs, rl, rf⟩ := r
  simp only [cKg] at C2 ⊢
  clear hr hx
  generalize xs.length = n at *
  have hn : ((n : Int) == 0) = false := by simp; omega
  go_enter Try.func7, Try.ntmps7
  go_wp2_with fail
  refine (C1.out _ ((Below.refl _ _).alloc (Nat.le_refl _) _)).mono ?_
  rintro e W1 ⟨rfl, hb⟩
  have r0 := cell_next hb (b := w.heap.size) (o := 0) (by simp <;> omega) (v := some (.int .i64 0)) (by simp [go_sem])
  have fr0 := frozen_next hb (b := w.heap.size) (o := 0) (by simp <;> omega) (v := false) (by simp [go_sem])
  have r1 := cell_next hb (b := w.heap.size) (o := 1) (by simp <;> omega) (v := some (.int .i64 0)) (by simp [go_sem])
  have fr1 := frozen_next hb (b := w.heap.size) (o := 1) (by simp <;> omega) (v := false) (by simp [go_sem])
  have r2 := cell_next hb (b := w.heap.size) (o := 2) (by simp <;> omega) (v := some (.int .i64 0)) (by simp [go_sem])
  have fr2 := frozen_next hb (b := w.heap.size) (o := 2) (by simp <;> omega) (v := false) (by simp [go_sem])
  have r3 := cell_next hb (b := w.heap.size) (o := 3) (by simp <;> omega) (v := some (.int .i64 0)) (by simp [go_sem])
  have fr3 := frozen_next hb (b := w.heap.size) (o := 3) (by simp <;> omega) (v := false) (by simp [go_sem])
  have nr : w.heap.size < W1.heap.size := by have := hb.size; simp at this; omega
  have hB := (below1 hb)
  clear hb
  go_wp2_with fail
  refine (C2.out _ hB).mono ?_
  rintro e W2 ⟨rfl, hb⟩
  replace r0 := cell_next hb nr r0
  replace fr0 := frozen_next hb nr fr0
  replace r1 := cell_next hb nr r1
  replace fr1 := frozen_next hb nr fr1
  replace r2 := cell_next hb nr r2
  replace fr2 := frozen_next hb nr fr2
  replace r3 := cell_next hb nr r3
  replace fr3 := frozen_next hb nr fr3
  replace nr := Nat.lt_of_lt_of_le nr hb.size
  replace hB := hB.trans (hb.mono hB.size)
  clear hb
  go_wp2_with fail
  refine bodyPost_ret (v := .tuple #[.agg #[.int .i64 ra, .int .i64 rs, .int .i64 rl, .int .i64 rf], .int .i64 0]) (by simp [results, Try.results7, go_sem, r0, r1, r2, r3, fr0, fr1, fr2, fr3]) rfl ⟨rfl, ?_⟩
  exact ((((hB.setCell (p := ⟨w.heap.size, 0, none⟩) (by simp <;> omega) _).setCell (p := ⟨w.heap.size, 1, none⟩) (by simp <;> omega) _).setCell (p := ⟨w.heap.size, 2, none⟩) (by simp <;> omega) _).setCell (p := ⟨w.heap.size, 3, none⟩) (by simp <;> omega) _)

/-- two kegs in a block -/
theorem ks_two {w : World} {g c : Nat} (p q : Kg) (hc : 2 ≤ c) (h : ∀ j, j < 8 → w.cell? ⟨g, j, none⟩ = (cKg p ++ cKg q)[j]?) : KsAt (g + 1) w (.slice (some ⟨g, 0, none⟩) 2 c) [p, q] := by
  refine ⟨_, c, rfl, hc, fun _ => ⟨g, 0, rfl, by omega, fun k z hz j hj => ?_⟩⟩
  rcases k with _ | _ | k
  · simp at hz; subst hz
    rw [show 0 + 0 * 4 + j = j from by omega, h j (by omega)]
    rw [Array.getElem?_append_left (by simpa [cKg] using hj)]
  · simp at hz; subst hz
    rw [show 0 + (0 + 1) * 4 + j = j + 4 from by omega, h (j + 4) (by omega)]
    rw [Array.getElem?_append_right (by simp [cKg])]
    simp [cKg]
  · simp at hz
theorem ks_one {w : World} {g c : Nat} (p : Kg) (hc : 1 ≤ c) (h : ∀ j, j < 4 → w.cell? ⟨g, j, none⟩ = (cKg p)[j]?) : KsAt (g + 1) w (.slice (some ⟨g, 0, none⟩) 1 c) [p] := by
  refine ⟨_, c, rfl, hc, fun _ => ⟨g, 0, rfl, by omega, fun k z hz j hj => ?_⟩⟩
  rcases k with _ | k
  · simp at hz; subst hz
    rw [show 0 + 0 * 4 + j = j from by omega, h j (by omega)]
  · simp at hz
theorem known_kegs : kgM [⟨340, 660, 800, 2⟩, ⟨680, 1320, 700, 3⟩] = ⟨1020, 1980, 733, 3⟩ := by simp [kgM, sps, suU, addP, kgL, kgF]; decide

set_option maxRecDepth 40000 in
set_option maxHeartbeats 2000000 in
theorem knownKegs_true (w : World) :
    Calls Try.prog 5 #[] w fun e w' => e = .returned (.bool true) ∧ Below w.heap.size w w' := by
  have C1 : Hid (∀ (W : World) (g : Nat), g < W.heap.size → (∀ j, j < 8 → W.cell? ⟨g, j, none⟩ = (cKg ⟨340, 660, 800, 2⟩ ++ cKg ⟨680, 1320, 700, 3⟩)[j]?) → Calls Try.prog 7 #[.slice (some ⟨g, 0, none⟩) 2 2] W fun e w' => e = .returned (.tuple #[.agg #[.int .i64 1020, .int .i64 1980, .int .i64 733, .int .i64 3], .int .i64 0]) ∧ Below W.heap.size W w') := Lib.hid (fun W g hg h => by
    have := mixed_ok (.slice (some ⟨g, 0, none⟩) 2 2) [⟨340, 660, 800, 2⟩, ⟨680, 1320, 700, 3⟩] W rfl (by simp) (by simp) ((ks_two _ _ (Nat.le_refl _) h).mono hg)
    rw [known_kegs] at this
    exact this)
  go_enter Try.func5, Try.ntmps5
  go_wp2_with fail
  refine (C1.out _ _ (by simp) (fun j hj => ?_)).mono ?_
  · rcases (by omega : j = 0 ∨ j = 1 ∨ j = 2 ∨ j = 3 ∨ j = 4 ∨ j = 5 ∨ j = 6 ∨ j = 7) with rfl | rfl | rfl | rfl | rfl | rfl | rfl | rfl <;> simp [go_sem, cKg]
  rintro e w1 ⟨rfl, hb⟩
  have hB := below1 hb
  clear hb C1
  go_wp2_with fail
  go_ret
  exact ⟨by first | rfl | decide | simp, hB.alloc hB.size _⟩
end Go.Proofs.Ytloddjjmoaljhaa
