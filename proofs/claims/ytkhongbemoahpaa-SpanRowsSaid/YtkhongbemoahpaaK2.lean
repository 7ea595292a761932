/- Contracts: the fixed calls, all of them. -/
import Derived.Test.YtkhongbemoahpaaK1
namespace Go.Proofs.Ytkhongbemoahpaa
open Go.RowKit Go.Lib Go.Shelf
set_option linter.unusedVariables false
set_option linter.unusedSimpArgs false
attribute [local go_sem ↓] Go.wp_at_zero Go.wp_at_succ

set_option maxRecDepth 40000 in
set_option maxHeartbeats 2000000 in
theorem known_any (w : World) : Calls Try.prog 4 #[] w fun e w' => e = .returned (.bool true) ∧ Below w.heap.size w w' := by
  go_enter Try.func4, Try.ntmps4
  go_wp2_with fail
  refine (k_scale _).mono ?_
  rintro e w1 ⟨rfl, hb1⟩
  go_wp2_with fail
  refine (k_draw _).mono ?_
  rintro e w2 ⟨rfl, hb2⟩
  have a0 := cell_next hb2 (b := w1.heap.size) (o := 0) (by simp <;> omega) (v := some (.int .i64 2)) (by simp [go_sem])
  have a1 := cell_next hb2 (b := w1.heap.size) (o := 1) (by simp <;> omega) (v := some (.int .i64 4)) (by simp [go_sem])
  have s2 : w1.heap.size < w2.heap.size := by have := hb2.size; simp at this; omega
  have B2 := hb1.trans ((below1 hb2).mono hb1.size)
  clear hb1 hb2
  generalize w1.heap.size = p1 at *
  go_wp2_with fail
  refine (k_boil _).mono ?_
  rintro e w3 ⟨rfl, hb3⟩
  replace a0 := cell_next (below2 hb3) s2 a0
  replace a1 := cell_next (below2 hb3) s2 a1
  have d0 := cell_next hb3 (b := w2.heap.size) (o := 0) (by simp <;> omega) (v := some (.int .i64 97)) (by simp [go_sem])
  have d1 := cell_next hb3 (b := w2.heap.size) (o := 1) (by simp <;> omega) (v := some (.int .i64 3)) (by simp [go_sem])
  have l0 := cell_next hb3 (b := w2.heap.size + 1) (o := 0) (by simp <;> omega) (v := some (.int .i64 873)) (by simp [go_sem])
  have l1 := cell_next hb3 (b := w2.heap.size + 1) (o := 1) (by simp <;> omega) (v := some (.int .i64 27)) (by simp [go_sem])
  have s3 : w2.heap.size + 1 < w3.heap.size := by have := hb3.size; simp at this; omega
  have B3 := B2.trans ((below2 hb3).mono B2.size)
  clear hb3 B2
  generalize w2.heap.size = p2 at *
  have hrow : ∀ (W : World) (T : TypeId), RRd (W.alloc (.cells #[.int .i64 0, .int .i64 0, .int .i64 10, .int .i64 30, .int .i64 20, .int .i64 10] T)) W.heap.size 0 [(0, 0), (10, 30), (20, 10)] := by
    intro W T k p hp
    rcases k with _ | _ | _ | k
    · simp at hp; subst hp; exact ⟨cell_new _ _ _ _, cell_new _ _ _ _⟩
    · simp at hp; subst hp; exact ⟨cell_new _ _ _ _, cell_new _ _ _ _⟩
    · simp at hp; subst hp; exact ⟨cell_new _ _ _ _, cell_new _ _ _ _⟩
    · simp at hp
  have HROW := Lib.hid hrow
  clear hrow
  go_wp2_with fail
  refine (k_where w3.heap.size _ (by simp) (HROW.out _ _)).mono ?_
  rintro e w4 ⟨v4, rfl, hown4, hb4⟩
  obtain ⟨g4, c4, rfl, hg4, _⟩ := hown4.form (by decide)
  have y0 := hown4.cellAt 2 (by decide)
  have y1 := hown4.cellAt 3 (by decide)
  have hg4b := (hown4.lt g4 rfl).2
  rw [show (flat [(5, 8), (13, 17)])[2]? = some (.int .i64 13) from rfl] at y0
  rw [show (flat [(5, 8), (13, 17)])[3]? = some (.int .i64 17) from rfl] at y1
  have hB := below1 hb4
  have hs := hB.size
  replace a0 := cell_next hB (by omega) a0
  replace a1 := cell_next hB (by omega) a1
  replace d0 := cell_next hB (by omega) d0
  replace d1 := cell_next hB (by omega) d1
  replace l0 := cell_next hB s3 l0
  replace l1 := cell_next hB s3 l1
  have B4 := B3.trans (hB.mono B3.size)
  have s4 : p2 + 1 < w4.heap.size := by omega
  clear hown4 hb4 hg4 hB hs s3 B3 HROW
  go_wp2_with fail
  refine (k_without w4.heap.size (w4.heap.size + 1) _ (by simp <;> omega) (by simp <;> omega) (by simp [go_sem]) (by simp [go_sem]) (by simp [go_sem]) (by simp [go_sem])).mono ?_
  rintro e w5 ⟨v5, rfl, hown5, hb5⟩
  obtain ⟨g5, c5, rfl, hg5, _⟩ := hown5.form (by decide)
  have z0 := hown5.cellAt 2 (by decide)
  have z1 := hown5.cellAt 3 (by decide)
  have hg5b := (hown5.lt g5 rfl).2
  rw [show (flat [(0, 2), (5, 9)])[2]? = some (.int .i64 5) from rfl] at z0
  rw [show (flat [(0, 2), (5, 9)])[3]? = some (.int .i64 9) from rfl] at z1
  have hB := below2 hb5
  have hs := hB.size
  replace a0 := cell_next hB (by omega) a0
  replace a1 := cell_next hB (by omega) a1
  replace d0 := cell_next hB (by omega) d0
  replace d1 := cell_next hB (by omega) d1
  replace l0 := cell_next hB s4 l0
  replace l1 := cell_next hB s4 l1
  replace y0 := cell_next hB hg4b y0
  replace y1 := cell_next hB hg4b y1
  have B5 := B4.trans (hB.mono B4.size)
  have s5 : p2 + 1 < w5.heap.size := by omega
  replace hg4b : g4 < w5.heap.size := by omega
  clear hown5 hb5 hg5 hB hs s4 B4
  go_wp2_with fail
  refine (k_share w5.heap.size _ (by simp <;> omega) (by simp [go_sem]) (by simp [go_sem]) (by simp [go_sem])).mono ?_
  rintro e w6 ⟨v6, rfl, hown6, hb6⟩
  obtain ⟨g6, c6, rfl, hg6, _⟩ := hown6.form (by decide)
  have x0 := hown6.cellAt 0 (by decide)
  have hg6b := (hown6.lt g6 rfl).2
  rw [show (ints [4, 3, 3])[0]? = some (.int .i64 4) from rfl] at x0
  have hB := below1 hb6
  have hs := hB.size
  replace a0 := cell_next hB (by omega) a0
  replace a1 := cell_next hB (by omega) a1
  replace d0 := cell_next hB (by omega) d0
  replace d1 := cell_next hB (by omega) d1
  replace l0 := cell_next hB s5 l0
  replace l1 := cell_next hB s5 l1
  replace y0 := cell_next hB hg4b y0
  replace y1 := cell_next hB hg4b y1
  replace z0 := cell_next hB hg5b z0
  replace z1 := cell_next hB hg5b z1
  have B6 := B5.trans (hB.mono B5.size)
  have s6 : p2 + 1 < w6.heap.size := by omega
  replace hg4b : g4 < w6.heap.size := by omega
  replace hg5b : g5 < w6.heap.size := by omega
  clear hown6 hb6 hg6 hB hs s5 B5
  go_wp2_with fail
  refine (k_part _).mono ?_
  rintro e w7 ⟨rfl, hB⟩
  have hs := hB.size
  replace a0 := cell_next hB (by omega) a0
  replace a1 := cell_next hB (by omega) a1
  replace d0 := cell_next hB (by omega) d0
  replace d1 := cell_next hB (by omega) d1
  replace l0 := cell_next hB s6 l0
  replace l1 := cell_next hB s6 l1
  replace y0 := cell_next hB hg4b y0
  replace y1 := cell_next hB hg4b y1
  replace z0 := cell_next hB hg5b z0
  replace z1 := cell_next hB hg5b z1
  replace x0 := cell_next hB hg6b x0
  have B7 := B6.trans (hB.mono B6.size)
  have n1 : p1 < w7.heap.size := by omega
  have n2 : p2 < w7.heap.size := by omega
  have n3 : p2 + 1 < w7.heap.size := by omega
  have n4 : g4 < w7.heap.size := by omega
  have n5 : g5 < w7.heap.size := by omega
  have n6 : g6 < w7.heap.size := by omega
  clear hB hs s6 B6 s2 hg4b hg5b hg6b
  have B8 := B7.alloc B7.size (.cells #[.int .i64 2, .int .i64 3] 61)
  clear B7
  go_wp2_with fail
  go_ret
  exact ⟨rfl, B8⟩
end Go.Proofs.Ytkhongbemoahpaa

