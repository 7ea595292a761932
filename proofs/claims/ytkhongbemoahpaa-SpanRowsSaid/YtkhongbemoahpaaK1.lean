/- Contracts: the fixed calls, one by one. -/
import Derived.Test.YtkhongbemoahpaaT11
import Derived.Test.YtkhongbemoahpaaS4
import Derived.Test.YtkhongbemoahpaaC8
import Derived.Test.YtkhongbemoahpaaC10
import Derived.Test.YtkhongbemoahpaaT2
namespace Go.Proofs.Ytkhongbemoahpaa
open Go.RowKit Go.Lib Go.Shelf
set_option linter.unusedVariables false
set_option linter.unusedSimpArgs false

theorem k_scale (w : World) : Calls Try.prog 14 #[.agg #[.int .i64 7, .int .i64 10], .int .i64 1, .int .i64 3] w fun e w' => e = .returned (.tuple #[.agg #[.int .i64 2, .int .i64 4], .int .i64 0]) ∧ Below w.heap.size w w' := by
  have e1 : fitL (min (qLo 7 1 3) (qLo 10 1 3)) (max (qHi 7 1 3) (qHi 10 1 3)) = 2 := by decide +kernel
  have e2 : fitH (min (qLo 7 1 3) (qLo 10 1 3)) (max (qHi 7 1 3) (qHi 10 1 3)) = 4 := by decide +kernel
  have e3 : fitE (min (qLo 7 1 3) (qLo 10 1 3)) (max (qHi 7 1 3) (qHi 10 1 3)) = 0 := by decide +kernel
  have h := scale_ok 7 10 1 3 (by decide +kernel) (by omega) (by omega) (by omega) (by omega) (fun w => divide_small 7 1 3 ⟨by omega, by omega⟩ ⟨by omega, by omega⟩ ⟨by omega, by omega⟩ (by omega) (by decide +kernel) w) (fun w => divide_small 10 1 3 ⟨by omega, by omega⟩ ⟨by omega, by omega⟩ ⟨by omega, by omega⟩ (by omega) (by decide +kernel) w) w
  rw [e1, e2, e3] at h
  exact h
theorem k_draw (w : World) : Calls Try.prog 15 #[.agg #[.int .i64 970, .int .i64 30], .int .i64 100] w fun e w' => e = .returned (.tuple #[.agg #[.int .i64 97, .int .i64 3], .agg #[.int .i64 873, .int .i64 27], .int .i64 0]) ∧ Below w.heap.size w w' := by
  have hd := drawsAt_pos 970 30 100 3 (by decide +kernel) (by omega) (by omega) (fun w => divide_small 30 100 (970 + 30) ⟨by omega, by omega⟩ ⟨by omega, by omega⟩ ⟨by omega, by omega⟩ (by omega) (by decide +kernel) w) (by decide +kernel) (by omega) (by omega)
  exact draw_ok 970 30 100 3 (by decide +kernel) (by omega) (by omega) hd w
theorem k_boil (w : World) : Calls Try.prog 16 #[.agg #[.int .i64 980, .int .i64 20], .int .i64 6600] w fun e w' => e = .returned (.tuple #[.int .i64 970, .int .i64 0]) ∧ Below w.heap.size w w' := by
  have h := boil_any 980 20 6600 w
  rw [show boilW 980 20 6600 = 970 from by decide +kernel, show boilE 980 20 6600 = 0 from by decide +kernel] at h
  exact h
theorem k_part (w : World) : Calls Try.prog 19 #[.int .i64 (-4), .int .i64 (-6)] w fun e w' => e = .returned (.tuple #[.agg #[.int .i64 2, .int .i64 3], .int .i64 0]) ∧ Below w.heap.size w w' := by
  have h := makePart_any (-4) (-6) w
  rw [show mkN (-4) (-6) = 2 from by decide +kernel, show mkD (-4) (-6) = 3 from by decide +kernel, show mkE (-4) (-6) = 0 from by decide +kernel] at h
  exact h

/-- the places of the fixed table, stretch by stretch -/
def kPL (k : Nat) : (Int × Int) × Bool := if k = 0 then ((5, 8), true) else ((13, 17), true)
theorem kPL_at : PlacesAt [(0, 0), (10, 30), (20, 10)] 15 24 kPL := by
  intro k p q hp hq
  rcases k with _ | _ | k
  · simp at hp hq
    subst hp hq
    refine ⟨by decide +kernel, fun W => ?_⟩
    have h := places_slope 0 0 10 30 15 24 15 24 5 8 (by decide +kernel) (by decide +kernel) (by decide +kernel) (by omega) (.inr ⟨by omega, rfl, rfl⟩) (by decide +kernel) (by decide +kernel)
      (fun w => divide_small (15 - 0) (10 - 0) (30 - 0) ⟨by omega, by omega⟩ ⟨by omega, by omega⟩ ⟨by omega, by omega⟩ (by omega) (by decide +kernel) w) (fun w => divide_small (24 - 0) (10 - 0) (30 - 0) ⟨by omega, by omega⟩ ⟨by omega, by omega⟩ ⟨by omega, by omega⟩ (by omega) (by decide +kernel) w) (by omega) (by omega) W
    exact h
  · simp at hp hq
    subst hp hq
    refine ⟨by decide +kernel, fun W => ?_⟩
    have h := places_slope 10 30 20 10 15 24 24 15 3 7 (by decide +kernel) (by decide +kernel) (by decide +kernel) (by omega) (.inl ⟨by omega, rfl, rfl⟩) (by decide +kernel) (by decide +kernel)
      (fun w => divide_small (24 - 30) (20 - 10) (10 - 30) ⟨by omega, by omega⟩ ⟨by omega, by omega⟩ ⟨by omega, by omega⟩ (by omega) (by decide +kernel) w) (fun w => divide_small (15 - 30) (20 - 10) (10 - 30) ⟨by omega, by omega⟩ ⟨by omega, by omega⟩ ⟨by omega, by omega⟩ (by omega) (by decide +kernel) w) (by omega) (by omega) W
    exact h
  · simp at hq
theorem k_where (g : Nat) (w : World) (hg : g < w.heap.size) (hr : RRd w g 0 [(0, 0), (10, 30), (20, 10)]) :
    Calls Try.prog 8 #[.slice (some ⟨g, 0, none⟩) 3 3, .agg #[.int .i64 15, .int .i64 24]] w (WherePost w [(5, 8), (13, 17)]) := by
  have h := where_ok [(0, 0), (10, 30), (20, 10)] 15 24 kPL g 0 3 kPL_at (by decide +kernel) (by decide) (by decide) (by decide +kernel) w hg hr
  rw [show whereAt kPL (([(0, 0), (10, 30), (20, 10)] : List (Int × Int)).length - 1) = [(5, 8), (13, 17)] from by decide +kernel] at h
  exact h
theorem k_without (g1 g2 : Nat) (w : World) (h1 : g1 < w.heap.size) (h2 : g2 < w.heap.size) (a0 : w.cell? ⟨g1, 0, none⟩ = some (.int .i64 0)) (a1 : w.cell? ⟨g1, 1, none⟩ = some (.int .i64 9)) (b0 : w.cell? ⟨g2, 0, none⟩ = some (.int .i64 3)) (b1 : w.cell? ⟨g2, 1, none⟩ = some (.int .i64 4)) :
    Calls Try.prog 17 #[.slice (some ⟨g1, 0, none⟩) 1 1, .slice (some ⟨g2, 0, none⟩) 1 1] w fun e w' =>
      ∃ v, e = .returned (.tuple #[v, .int .i64 0]) ∧ w'.ownsRow w.heap.size 32 2 v 2 (flat [(0, 2), (5, 9)]) ∧ Below w.heap.size w w' := by
  have h := without_ok (.slice (some ⟨g1, 0, none⟩) 1 1) (.slice (some ⟨g2, 0, none⟩) 1 1) [(0, 9)] [(3, 4)] w
    ⟨_, _, rfl, fun _ => ⟨g1, 0, rfl, h1, fun k p hp => by
      rcases k with _ | k
      · simp at hp; subst hp; exact ⟨a0, a1⟩
      · simp at hp⟩⟩
    ⟨_, _, rfl, fun _ => ⟨g2, 0, rfl, h2, fun k p hp => by
      rcases k with _ | k
      · simp at hp; subst hp; exact ⟨b0, b1⟩
      · simp at hp⟩⟩ known_setE.1 known_setE.2
  rw [known_join] at h
  exact h
theorem k_gf : GfAt [1, 1, 1] [0, 1, 2] := fun g c W hg hi =>
  greatestFirst_down g 0 c [1, 1, 1] (by decide) (by decide) (by decide +kernel) (fun k hk => by rcases k with _ | _ | k <;> simp at hk ⊢; omega) W hg hi
theorem k_share (g : Nat) (w : World) (hg : g < w.heap.size) (h0 : w.cell? ⟨g, 0, none⟩ = some (.int .i64 1)) (h1 : w.cell? ⟨g, 1, none⟩ = some (.int .i64 1)) (h2 : w.cell? ⟨g, 2, none⟩ = some (.int .i64 1)) :
    Calls Try.prog 18 #[.int .i64 10, .slice (some ⟨g, 0, none⟩) 3 3] w (SharePost w [4, 3, 3]) := by
  have h := share_of 10 3 [1, 1, 1] [0, 1, 2] 1 (.slice (some ⟨g, 0, none⟩) 3 3) w (by omega) (by omega) (by decide) (by decide) (by decide +kernel) (by decide +kernel) (by omega) (by decide +kernel) (by decide) rfl (by decide +kernel)
    (by rw [show rsS 10 3 [1, 1, 1] = [1, 1, 1] from by decide +kernel]; exact k_gf)
    ⟨_, _, rfl, fun _ => ⟨g, 0, rfl, hg, fun j z hz => by
      rcases j with _ | _ | _ | j
      · simp at hz; subst hz; exact h0
      · simp at hz; subst hz; exact h1
      · simp at hz; subst hz; exact h2
      · simp at hz⟩⟩
  rw [show bump (flS 10 3 [1, 1, 1]) (List.take 1 [0, 1, 2]) = [4, 3, 3] from by decide +kernel] at h
  exact h
end Go.Proofs.Ytkhongbemoahpaa

