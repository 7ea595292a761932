/- Contracts: the least range with all ranges; a range times a fraction. -/
import Derived.Test.YtloddjjmoaljhaaC4
import Derived.Shelf.Abstract
namespace Go.Proofs.Ytloddjjmoaljhaa
open Go.RowKit Go.Lib Go.Shelf
set_option linter.unusedVariables false
set_option linter.unusedSimpArgs false

theorem enters_hull : ∀ args w, (callFunc 56 args).run Try.prog w = .ok (.enter 56 args) w := enters_of Try.func56 (by kernel_rfl) rfl

def hullJ (a b : Int × Int) : Int × Int := (min a.1 b.1, max a.2 b.2)
theorem hullJ_mk (a b c d : Int) : hullJ (a, b) (c, d) = (min a c, max b d) := rfl

set_option maxHeartbeats 400000 in
theorem hull1_any (a b c d : Int) (w : World) : Calls Try.prog 56 #[.agg #[.int .i64 a, .int .i64 b], .agg #[.int .i64 c, .int .i64 d]] w fun e w' => e = .returned (.agg #[.int .i64 (min a c), .int .i64 (max b d)]) ∧ Below w.heap.size w w' := by
  go_enter Try.func56, Try.ntmps56
  go_wp2
  all_goals
    refine bodyPost_ret (v := .agg #[.int .i64 (min a c), .int .i64 (max b d)]) (by simp [results, Try.results56, go_sem]; omega) rfl ⟨rfl, ?_⟩
    exact ((((Below.refl _ _).alloc (Nat.le_refl _) _).alloc (by simp) _).alloc (by simp; omega) _)

theorem hull1_join : JoinAt 56 hullJ (fun _ => True) := fun a b w _ _ => hull1_any a.1 a.2 b.1 b.2 w

set_option maxHeartbeats 400000 in
theorem hull_any (lo hi : Int) (g off : Nat) (xs : List (Int × Int)) (c : Nat) (w : World) (hg : g < w.heap.size) (hr : RRd w g off xs) (hl : xs.length ≤ 1000000) :
    Calls Try.prog 27 #[.agg #[.int .i64 lo, .int .i64 hi], .slice (some ⟨g, off, none⟩) xs.length c] w fun e w' =>
      e = .returned (.agg #[.int .i64 (xs.foldl hullJ (lo, hi)).1, .int .i64 (xs.foldl hullJ (lo, hi)).2]) ∧ Below w.heap.size w w' := by
  have hc : Hid (∀ W : World, Below w.heap.size w W → Calls Try.prog 55 #[.agg #[.int .i64 lo, .int .i64 hi], .slice (some ⟨g, off, none⟩) xs.length c, .func (Fn.func 56) #[] #[]] W fun e w' =>
      e = .returned (.agg #[.int .i64 (xs.foldl hullJ (lo, hi)).1, .int .i64 (xs.foldl hullJ (lo, hi)).2]) ∧ Below W.heap.size W w') := fun W hb => by
    have hz := hb.size
    exact together_any 56 hullJ (fun _ => True) enters_hull hull1_join (fun _ _ _ _ => trivial) lo hi trivial g off xs c W (fun _ _ => trivial) (by omega) (hr.below hb hg) hl
  generalize xs.foldl hullJ (lo, hi) = q at *
  generalize xs.length = n at *
  clear hr
  go_enter Try.func27, Try.ntmps27
  go_wp2_with fail
  refine (hc.out _ (((Below.refl _ _).alloc (Nat.le_refl _) _).alloc (by simp) _)).mono ?_
  rintro e w1 ⟨rfl, hb1⟩
  have d0 := cell_next hb1 (b := w.heap.size + 1) (o := 0) (by simp) (v := some (.int .i64 0)) (by simp)
  have d1 := cell_next hb1 (b := w.heap.size + 1) (o := 1) (by simp) (v := some (.int .i64 0)) (by simp)
  have e0 := frozen_next hb1 (b := w.heap.size + 1) (o := 0) (by simp) (v := false) (by simp)
  have e1 := frozen_next hb1 (b := w.heap.size + 1) (o := 1) (by simp) (v := false) (by simp)
  have hB := below2 hb1
  clear hb1
  go_wp2_with fail
  refine bodyPost_ret (v := .agg #[.int .i64 q.1, .int .i64 q.2]) (by simp [results, Try.results27, go_sem, *]) rfl ⟨rfl, ?_⟩
  exact (hB.setCell (by simp) _).setCell (by simp) _
end Go.Proofs.Ytloddjjmoaljhaa

