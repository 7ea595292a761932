/- The walk of CandyHotter where it is hot enough. -/
import Derived.Test.YtgklpbgdimkhaaaGreatJ23
import Derived.Deep.QuietTactic
import Derived.BigQuiet
import Derived.Deep.DeepCutAuto
namespace Go.Proofs.YtgklpbgdimkhaaaGreat
open Go.RowKit Go.Lib Go.Shelf
set_option linter.unusedVariables false
set_option linter.unusedSimpArgs false
attribute [local go_sem ↓] Go.wp_at_zero Go.wp_at_succ


theorem inside_any (a b c d : Int) (w : World) (h1 : c ≤ a) (h2 : b ≤ d) (h3 : a ≤ b) : Calls Tryz.prog 36 #[.agg #[.int .i64 a, .int .i64 b], .agg #[.int .i64 c, .int .i64 d]] w fun e w' => e = .returned (.bool true) ∧ Below w.heap.size w w' := by
 have e1 : decide (c ≤ a) = true := decide_eq_true h1
 have e2 : decide (b ≤ d) = true := decide_eq_true h2
 have e3 : decide (a ≤ b) = true := decide_eq_true h3
 go_enter Tryz.func36, Tryz.ntmps36
 go_wp2_with fail
 go_ret
 exact ⟨rfl, ((Below.refl _ _).alloc (Nat.le_refl _) _).alloc (by simp) _⟩

theorem suffC {R G : Nat → Value → Value → Value → World → Prop} {P : Prop} (main : (∀ g u1 u2 u3 W, R g u1 u2 u3 W → G g u1 u2 u3 W) → P) (key : ∀ g u1 u2 u3 W, R g u1 u2 u3 W → G g u1 u2 u3 W) : P := main key
theorem far2 {W : World} {q : Nat} {x y : Value} {b o : Nat} {v : Option Value} (hne : ¬ b = q) (h : W.cell? ⟨b, o, none⟩ = v) : ((W.setCell ⟨q, 0, none⟩ x).setCell ⟨q, 1, none⟩ y).cell? ⟨b, o, none⟩ = v :=
 (so (by omega)).trans ((so (by omega)).trans h)
theorem fn2 {W : World} {q : Nat} {x y : Value} {b : Nat} (h : b < W.heap.size) : b < ((W.setCell ⟨q, 0, none⟩ x).setCell ⟨q, 1, none⟩ y).heap.size := by simpa [World.setCell] using h

set_option maxRecDepth 20000 in
set_option maxHeartbeats 1000000 in
theorem hot_pack {R : Cr} (hc : crB R = true) (a s A1 A2 B1 B2 : Int) (m1 : A1 ≤ A2) (m2 : A1 ≤ B1) (m3 : A2 ≤ B2) (m4 : B1 ≤ B2) (m5 : B2 ≤ 10000) {mm : Nat} {f l : Int × Int} (hm : R.ys.length = mm + 1) (hf : R.ys[0]? = some f) (hl : R.ys[mm]? = some l)
  (q1 : ¬ a < 0) (q2 : ¬ 1000000000000 < a) (q3 : ¬ s < 1) (q4 : ¬ 1000000000000 < s) (q5 : ¬ A1 < 1) : ∃ yA1 yA2 yB1 yB2 c dl dh : Int,
  (∀ W : World, Calls Tryz.prog 23 #[.agg #[.int .i64 a, .int .i64 s], .agg #[.int .i64 A1, .int .i64 A2, .int .i64 0, .int .i64 0, .int .i64 0, .int .i64 0, .int .i64 0, .int .i64 0, .bool false, .int .i64 0]] W fun e w' => e = .returned (.tuple #[.agg #[.int .i64 yA2, .int .i64 yA1], .int .i64 0]) ∧ Below W.heap.size W w') ∧
  (∀ W : World, Calls Tryz.prog 23 #[.agg #[.int .i64 a, .int .i64 s], .agg #[.int .i64 B1, .int .i64 B2, .int .i64 0, .int .i64 0, .int .i64 0, .int .i64 0, .int .i64 0, .int .i64 0, .bool false, .int .i64 0]] W fun e w' => e = .returned (.tuple #[.agg #[.int .i64 yB2, .int .i64 yB1], .int .i64 0]) ∧ Below W.heap.size W w') ∧
  (∀ (u1 u2 u3 : Value) (W : World), CrAt W.heap.size W u1 u2 u3 R → Calls Tryz.prog 15 #[.agg (cCr u1 u2 u3 R).toArray, .agg #[.int .i64 a, .int .i64 s], .agg #[.int .i64 f.1, .int .i64 f.1]] W fun e w' => e = .returned (.tuple #[.agg #[.int .i64 c, .int .i64 c], .int .i64 0]) ∧ Below W.heap.size W w') ∧
  (∀ (u1 u2 u3 : Value) (W : World), CrAt W.heap.size W u1 u2 u3 R → Calls Tryz.prog 15 #[.agg (cCr u1 u2 u3 R).toArray, .agg #[.int .i64 a, .int .i64 s], .agg #[.int .i64 f.1, .int .i64 l.1]] W fun e w' => e = .returned (.tuple #[.agg #[.int .i64 dl, .int .i64 dh], .int .i64 0]) ∧ Below W.heap.size W w') ∧
  (∀ W : World, Calls Tryz.prog 36 #[.agg #[.int .i64 c, .int .i64 c], .agg #[.int .i64 dl, .int .i64 dh]] W fun e w' => e = .returned (.bool true) ∧ Below W.heap.size W w') ∧
  IntKind.i64.wrap (a + s) = a + s ∧ decide (yA2 < yB2) = false ∧ decide (yA1 < yB1) = false ∧ decide (yA1 < yA2) = false ∧ decide (yB2 < s) = false ∧ decide (a + s < yA1) = false ∧ decide (0 ≤ c) = true ∧ decide (c ≤ s) = true := by
 have z1 : spB a s = true := by simp [spB]; omega
 have z2 : s ≠ 0 := by omega
 obtain ⟨p1, p2, p3⟩ := bdV_facts z1 z2 (show 1 ≤ A2 by omega) m3 m5
 obtain ⟨p4, p5, p6⟩ := bdV_facts z1 z2 (show 1 ≤ A1 by omega) m2 (by omega)
 obtain ⟨p7, p8, p9⟩ := bdV_facts z1 z2 (show 1 ≤ A1 by omega) m1 (by omega)
 obtain ⟨c, dl, dh, x1, x2, x3, x4, x5, x6, x7, x8⟩ := cc_hot hc z1 hm hf hl
 refine ⟨bdV a s A1, bdV a s A2, bdV a s B1, bdV a s B2, c, dl, dh, ?_, ?_, ?_, ?_, fun W => inside_any c c dl dh W x7 x8 (Int.le_refl _), IntWalk.i64_in _ (by omega), decide_eq_false (by omega), decide_eq_false (by omega), decide_eq_false (by omega), decide_eq_false (by omega), decide_eq_false (by omega), decide_eq_true x5, decide_eq_true x6⟩
 ·intro W
  have := yield_any a s (stD A1 A2) W
  rw [(yi_at z1 z2 (show 1 ≤ A1 by omega) m1 (by omega)).1, (yi_at z1 z2 (show 1 ≤ A1 by omega) m1 (by omega)).2] at this
  simpa [cSt, stD] using this
 ·intro W
  have := yield_any a s (stD B1 B2) W
  rw [(yi_at z1 z2 (show 1 ≤ B1 by omega) m4 m5).1, (yi_at z1 z2 (show 1 ≤ B1 by omega) m4 m5).2] at this
  simpa [cSt, stD] using this
 ·intro u1 u2 u3 W h
  have := jCrystals_any u1 u2 u3 R a s f.1 f.1 W h
  rw [x1, x2] at this
  exact this
 ·intro u1 u2 u3 W h
  have := jCrystals_any u1 u2 u3 R a s f.1 l.1 W h
  rw [x3, x4] at this
  exact this
end Go.Proofs.YtgklpbgdimkhaaaGreat
