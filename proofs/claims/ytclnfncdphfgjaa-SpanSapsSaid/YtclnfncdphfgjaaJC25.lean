/- Contracts: K1, K2, joined. -/
import Derived.Test.YtclnfncdphfgjaaJC23
import Derived.Test.YtclnfncdphfgjaaJC14
import Derived.Test.YtclnfncdphfgjaaJC5
import Derived.Test.YtclnfncdphfgjaaJC24
namespace Go.Proofs.Ytclnfncdphfgjaa
open Go.RowKit Go.Lib Go.Shelf
set_option linter.unusedVariables false
set_option linter.unusedSimpArgs false

theorem k_scale (w : World) : Calls Try.prog 53 #[.agg #[.int .i64 7, .int .i64 10], .int .i64 1, .int .i64 3] w fun e w' => e = .returned (.tuple #[.agg #[.int .i64 2, .int .i64 4], .int .i64 0]) ∧ Below w.heap.size w w' := by
  have e1 : fitL (min (qLo 7 1 3) (qLo 10 1 3)) (max (qHi 7 1 3) (qHi 10 1 3)) = 2 := by decide +kernel
  have e2 : fitH (min (qLo 7 1 3) (qLo 10 1 3)) (max (qHi 7 1 3) (qHi 10 1 3)) = 4 := by decide +kernel
  have e3 : fitE (min (qLo 7 1 3) (qLo 10 1 3)) (max (qHi 7 1 3) (qHi 10 1 3)) = 0 := by decide +kernel
  have h := scale_ok 7 10 1 3 (by decide +kernel) (by omega) (by omega) (by omega) (by omega) (fun w => divide_small 7 1 3 ⟨by omega, by omega⟩ ⟨by omega, by omega⟩ ⟨by omega, by omega⟩ (by omega) (by decide +kernel) w) (fun w => divide_small 10 1 3 ⟨by omega, by omega⟩ ⟨by omega, by omega⟩ ⟨by omega, by omega⟩ (by omega) (by decide +kernel) w) w
  rw [e1, e2, e3] at h
  exact h
theorem k_draw (w : World) : Calls Try.prog 19 #[.agg #[.int .i64 970, .int .i64 30], .int .i64 100] w fun e w' => e = .returned (.tuple #[.agg #[.int .i64 97, .int .i64 3], .agg #[.int .i64 873, .int .i64 27], .int .i64 0]) ∧ Below w.heap.size w w' := by
  have hd := drawsAt_pos 970 30 100 3 (by decide +kernel) (by omega) (by omega) (fun w => divide_small 30 100 (970 + 30) ⟨by omega, by omega⟩ ⟨by omega, by omega⟩ ⟨by omega, by omega⟩ (by omega) (by decide +kernel) w) (by decide +kernel) (by omega) (by omega)
  exact draw_ok 970 30 100 3 (by decide +kernel) (by omega) (by omega) hd w
theorem k_boil (w : World) : Calls Try.prog 54 #[.agg #[.int .i64 980, .int .i64 20], .int .i64 6600] w fun e w' => e = .returned (.tuple #[.int .i64 970, .int .i64 0]) ∧ Below w.heap.size w w' := by
  have h := boil_any 980 20 6600 w
  rw [show boilW 980 20 6600 = 970 from by decide +kernel, show boilE 980 20 6600 = 0 from by decide +kernel] at h
  exact h
theorem k_part (w : World) : Calls Try.prog 57 #[.int .i64 (-4), .int .i64 (-6)] w fun e w' => e = .returned (.tuple #[.agg #[.int .i64 2, .int .i64 3], .int .i64 0]) ∧ Below w.heap.size w w' := by
  have h := makePart_any (-4) (-6) w
  rw [show mkN (-4) (-6) = 2 from by decide +kernel, show mkD (-4) (-6) = 3 from by decide +kernel, show mkE (-4) (-6) = 0 from by decide +kernel] at h
  exact h

/-- the places of the fixed table, stretch by stretch -/
def kPL (k : Nat) : (Int × Int) × Bool := if k = 0 then ((5, 8), true) else ((13, 17), true)
theorem kPL_at : PlacesAt [(0, 0), (10, 30), (20, 10)] 15 24 kPL := by
  intro k p q hp hq
  rcases k with _ | _ | k
  · simp at hp hq
    subst hp hq
    refine ⟨by decide +kernel, fun W => ?_⟩
    have h := places_slope 0 0 10 30 15 24 15 24 5 8 (by decide +kernel) (by decide +kernel) (by decide +kernel) (by omega) (.inr ⟨by omega, rfl, rfl⟩) (by decide +kernel) (by decide +kernel)
      (fun w => divide_small (15 - 0) (10 - 0) (30 - 0) ⟨by omega, by omega⟩ ⟨by omega, by omega⟩ ⟨by omega, by omega⟩ (by omega) (by decide +kernel) w) (fun w => divide_small (24 - 0) (10 - 0) (30 - 0) ⟨by omega, by omega⟩ ⟨by omega, by omega⟩ ⟨by omega, by omega⟩ (by omega) (by decide +kernel) w) (by omega) (by omega) W
    exact h
  · simp at hp hq
    subst hp hq
    refine ⟨by decide +kernel, fun W => ?_⟩
    have h := places_slope 10 30 20 10 15 24 24 15 3 7 (by decide +kernel) (by decide +kernel) (by decide +kernel) (by omega) (.inl ⟨by omega, rfl, rfl⟩) (by decide +kernel) (by decide +kernel)
      (fun w => divide_small (24 - 30) (20 - 10) (10 - 30) ⟨by omega, by omega⟩ ⟨by omega, by omega⟩ ⟨by omega, by omega⟩ (by omega) (by decide +kernel) w) (fun w => divide_small (15 - 30) (20 - 10) (10 - 30) ⟨by omega, by omega⟩ ⟨by omega, by omega⟩ ⟨by omega, by omega⟩ (by omega) (by decide +kernel) w) (by omega) (by omega) W
    exact h
  · simp at hq
theorem k_where (g : Nat) (w : World) (hg : g < w.heap.size) (hr : RRd w g 0 [(0, 0), (10, 30), (20, 10)]) :
    Calls Try.prog 55 #[.slice (some ⟨g, 0, none⟩) 3 3, .agg #[.int .i64 15, .int .i64 24]] w (WherePost w [(5, 8), (13, 17)]) := by
  have h := where_ok [(0, 0), (10, 30), (20, 10)] 15 24 kPL g 0 3 kPL_at (by decide +kernel) (by decide) (by decide) (by decide +kernel) w hg hr
  rw [show whereAt kPL (([(0, 0), (10, 30), (20, 10)] : List (Int × Int)).length - 1) = [(5, 8), (13, 17)] from by decide +kernel] at h
  exact h
theorem k_without (g1 g2 : Nat) (w : World) (h1 : g1 < w.heap.size) (h2 : g2 < w.heap.size) (a0 : w.cell? ⟨g1, 0, none⟩ = some (.int .i64 0)) (a1 : w.cell? ⟨g1, 1, none⟩ = some (.int .i64 9)) (b0 : w.cell? ⟨g2, 0, none⟩ = some (.int .i64 3)) (b1 : w.cell? ⟨g2, 1, none⟩ = some (.int .i64 4)) :
    Calls Try.prog 56 #[.slice (some ⟨g1, 0, none⟩) 1 1, .slice (some ⟨g2, 0, none⟩) 1 1] w fun e w' =>
      ∃ v, e = .returned (.tuple #[v, .int .i64 0]) ∧ w'.ownsRow w.heap.size 107 2 v 2 (flat [(0, 2), (5, 9)]) ∧ Below w.heap.size w w' := by
  have h := without_ok (.slice (some ⟨g1, 0, none⟩) 1 1) (.slice (some ⟨g2, 0, none⟩) 1 1) [(0, 9)] [(3, 4)] w
    ⟨_, _, rfl, fun _ => ⟨g1, 0, rfl, h1, fun k p hp => by
      rcases k with _ | k
      · simp at hp; subst hp; exact ⟨a0, a1⟩
      · simp at hp⟩⟩
    ⟨_, _, rfl, fun _ => ⟨g2, 0, rfl, h2, fun k p hp => by
      rcases k with _ | k
      · simp at hp; subst hp; exact ⟨b0, b1⟩
      · simp at hp⟩⟩ known_setE.1 known_setE.2
  rw [known_join] at h
  exact h
theorem k_gf : GfAt [1, 1, 1] [0, 1, 2] := fun g c W hg hi =>
  greatestFirst_down g 0 c [1, 1, 1] (by decide) (by decide) (by decide +kernel) (fun k hk => by rcases k with _ | _ | k <;> simp at hk ⊢; omega) W hg hi
theorem k_share (g : Nat) (w : World) (hg : g < w.heap.size) (h0 : w.cell? ⟨g, 0, none⟩ = some (.int .i64 1)) (h1 : w.cell? ⟨g, 1, none⟩ = some (.int .i64 1)) (h2 : w.cell? ⟨g, 2, none⟩ = some (.int .i64 1)) :
    Calls Try.prog 23 #[.int .i64 10, .slice (some ⟨g, 0, none⟩) 3 3] w (SharePost w [4, 3, 3]) := by
  have h := share_of 10 3 [1, 1, 1] [0, 1, 2] 1 (.slice (some ⟨g, 0, none⟩) 3 3) w (by omega) (by omega) (by decide) (by decide) (by decide +kernel) (by decide +kernel) (by omega) (by decide +kernel) (by decide) rfl (by decide +kernel)
    (by rw [show rsS 10 3 [1, 1, 1] = [1, 1, 1] from by decide +kernel]; exact k_gf)
    ⟨_, _, rfl, fun _ => ⟨g, 0, rfl, hg, fun j z hz => by
      rcases j with _ | _ | _ | j
      · simp at hz; subst hz; exact h0
      · simp at hz; subst hz; exact h1
      · simp at hz; subst hz; exact h2
      · simp at hz⟩⟩
  rw [show bump (flS 10 3 [1, 1, 1]) (List.take 1 [0, 1, 2]) = [4, 3, 3] from by decide +kernel] at h
  exact h

open Go.RowKit Go.Lib Go.Shelf
set_option linter.unusedVariables false
set_option linter.unusedSimpArgs false
attribute [local go_sem ↓] Go.wp_at_zero Go.wp_at_succ

set_option maxRecDepth 40000 in
set_option maxHeartbeats 2000000 in
theorem known_any (w : World) : Calls Try.prog 14 #[] w fun e w' => e = .returned (.bool true) ∧ Below w.heap.size w w' := by
  go_enter Try.func14, Try.ntmps14
  go_wp2_with fail
  refine (k_scale _).mono ?_
  rintro e w1 ⟨rfl, hb1⟩
  go_wp2_with fail
  refine (k_draw _).mono ?_
  rintro e w2 ⟨rfl, hb2⟩
  have a0 := cell_next hb2 (b := w1.heap.size) (o := 0) (by simp <;> omega) (v := some (.int .i64 2)) (by simp [go_sem])
  have a1 := cell_next hb2 (b := w1.heap.size) (o := 1) (by simp <;> omega) (v := some (.int .i64 4)) (by simp [go_sem])
  have s2 : w1.heap.size < w2.heap.size := by have := hb2.size; simp at this; omega
  have B2 := hb1.trans ((below1 hb2).mono hb1.size)
  clear hb1 hb2
  generalize w1.heap.size = p1 at *
  go_wp2_with fail
  refine (k_boil _).mono ?_
  rintro e w3 ⟨rfl, hb3⟩
  replace a0 := cell_next (below2 hb3) s2 a0
  replace a1 := cell_next (below2 hb3) s2 a1
  have d0 := cell_next hb3 (b := w2.heap.size) (o := 0) (by simp <;> omega) (v := some (.int .i64 97)) (by simp [go_sem])
  have d1 := cell_next hb3 (b := w2.heap.size) (o := 1) (by simp <;> omega) (v := some (.int .i64 3)) (by simp [go_sem])
  have l0 := cell_next hb3 (b := w2.heap.size + 1) (o := 0) (by simp <;> omega) (v := some (.int .i64 873)) (by simp [go_sem])
  have l1 := cell_next hb3 (b := w2.heap.size + 1) (o := 1) (by simp <;> omega) (v := some (.int .i64 27)) (by simp [go_sem])
  have s3 : w2.heap.size + 1 < w3.heap.size := by have := hb3.size; simp at this; omega
  have B3 := B2.trans ((below2 hb3).mono B2.size)
  clear hb3 B2
  generalize w2.heap.size = p2 at *
  have hrow : ∀ (W : World) (T : TypeId), RRd (W.alloc (.cells #[.int .i64 0, .int .i64 0, .int .i64 10, .int .i64 30, .int .i64 20, .int .i64 10] T)) W.heap.size 0 [(0, 0), (10, 30), (20, 10)] := by
    intro W T k p hp
    rcases k with _ | _ | _ | k
    · simp at hp; subst hp; exact ⟨cell_new _ _ _ _, cell_new _ _ _ _⟩
    · simp at hp; subst hp; exact ⟨cell_new _ _ _ _, cell_new _ _ _ _⟩
    · simp at hp; subst hp; exact ⟨cell_new _ _ _ _, cell_new _ _ _ _⟩
    · simp at hp
  have HROW := Lib.hid hrow
  clear hrow
  go_wp2_with fail
  refine (k_where w3.heap.size _ (by simp) (HROW.out _ _)).mono ?_
  rintro e w4 ⟨v4, rfl, hown4, hb4⟩
  obtain ⟨g4, c4, rfl, hg4, _⟩ := hown4.form (by decide)
  have y0 := hown4.cellAt 2 (by decide)
  have y1 := hown4.cellAt 3 (by decide)
  have hg4b := (hown4.lt g4 rfl).2
  rw [show (flat [(5, 8), (13, 17)])[2]? = some (.int .i64 13) from rfl] at y0
  rw [show (flat [(5, 8), (13, 17)])[3]? = some (.int .i64 17) from rfl] at y1
  have hB := below1 hb4
  have hs := hB.size
  replace a0 := cell_next hB (by omega) a0
  replace a1 := cell_next hB (by omega) a1
  replace d0 := cell_next hB (by omega) d0
  replace d1 := cell_next hB (by omega) d1
  replace l0 := cell_next hB s3 l0
  replace l1 := cell_next hB s3 l1
  have B4 := B3.trans (hB.mono B3.size)
  have s4 : p2 + 1 < w4.heap.size := by omega
  clear hown4 hb4 hg4 hB hs s3 B3 HROW
  go_wp2_with fail
  refine (k_without w4.heap.size (w4.heap.size + 1) _ (by simp <;> omega) (by simp <;> omega) (by simp [go_sem]) (by simp [go_sem]) (by simp [go_sem]) (by simp [go_sem])).mono ?_
  rintro e w5 ⟨v5, rfl, hown5, hb5⟩
  obtain ⟨g5, c5, rfl, hg5, _⟩ := hown5.form (by decide)
  have z0 := hown5.cellAt 2 (by decide)
  have z1 := hown5.cellAt 3 (by decide)
  have hg5b := (hown5.lt g5 rfl).2
  rw [show (flat [(0, 2), (5, 9)])[2]? = some (.int .i64 5) from rfl] at z0
  rw [show (flat [(0, 2), (5, 9)])[3]? = some (.int .i64 9) from rfl] at z1
  have hB := below2 hb5
  have hs := hB.size
  replace a0 := cell_next hB (by omega) a0
  replace a1 := cell_next hB (by omega) a1
  replace d0 := cell_next hB (by omega) d0
  replace d1 := cell_next hB (by omega) d1
  replace l0 := cell_next hB s4 l0
  replace l1 := cell_next hB s4 l1
  replace y0 := cell_next hB hg4b y0
  replace y1 := cell_next hB hg4b y1
  have B5 := B4.trans (hB.mono B4.size)
  have s5 : p2 + 1 < w5.heap.size := by omega
  replace hg4b : g4 < w5.heap.size := by omega
  clear hown5 hb5 hg5 hB hs s4 B4
  go_wp2_with fail
  refine (k_share w5.heap.size _ (by simp <;> omega) (by simp [go_sem]) (by simp [go_sem]) (by simp [go_sem])).mono ?_
  rintro e w6 ⟨v6, rfl, hown6, hb6⟩
  obtain ⟨g6, c6, rfl, hg6, _⟩ := hown6.form (by decide)
  have x0 := hown6.cellAt 0 (by decide)
  have hg6b := (hown6.lt g6 rfl).2
  rw [show (ints [4, 3, 3])[0]? = some (.int .i64 4) from rfl] at x0
  have hB := below1 hb6
  have hs := hB.size
  replace a0 := cell_next hB (by omega) a0
  replace a1 := cell_next hB (by omega) a1
  replace d0 := cell_next hB (by omega) d0
  replace d1 := cell_next hB (by omega) d1
  replace l0 := cell_next hB s5 l0
  replace l1 := cell_next hB s5 l1
  replace y0 := cell_next hB hg4b y0
  replace y1 := cell_next hB hg4b y1
  replace z0 := cell_next hB hg5b z0
  replace z1 := cell_next hB hg5b z1
  have B6 := B5.trans (hB.mono B5.size)
  have s6 : p2 + 1 < w6.heap.size := by omega
  replace hg4b : g4 < w6.heap.size := by omega
  replace hg5b : g5 < w6.heap.size := by omega
  clear hown6 hb6 hg6 hB hs s5 B5
  go_wp2_with fail
  refine (k_part _).mono ?_
  rintro e w7 ⟨rfl, hB⟩
  have hs := hB.size
  replace a0 := cell_next hB (by omega) a0
  replace a1 := cell_next hB (by omega) a1
  replace d0 := cell_next hB (by omega) d0
  replace d1 := cell_next hB (by omega) d1
  replace l0 := cell_next hB s6 l0
  replace l1 := cell_next hB s6 l1
  replace y0 := cell_next hB hg4b y0
  replace y1 := cell_next hB hg4b y1
  replace z0 := cell_next hB hg5b z0
  replace z1 := cell_next hB hg5b z1
  replace x0 := cell_next hB hg6b x0
  have B7 := B6.trans (hB.mono B6.size)
  have n1 : p1 < w7.heap.size := by omega
  have n2 : p2 < w7.heap.size := by omega
  have n3 : p2 + 1 < w7.heap.size := by omega
  have n4 : g4 < w7.heap.size := by omega
  have n5 : g5 < w7.heap.size := by omega
  have n6 : g6 < w7.heap.size := by omega
  clear hB hs s6 B6 s2 hg4b hg5b hg6b
  have B8 := B7.alloc B7.size (.cells #[.int .i64 2, .int .i64 3] 119)
  clear B7
  go_wp2_with fail
  go_ret
  exact ⟨rfl, B8⟩
end Go.Proofs.Ytclnfncdphfgjaa
