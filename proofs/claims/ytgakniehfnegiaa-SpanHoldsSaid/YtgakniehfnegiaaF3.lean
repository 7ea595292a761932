/-
  For every two pairs of numbers and every three unsigned numbers the Go function SpanHolds returns true, and its arguments read afterwards as they read before.
  Conditions: none.
-/
import Derived.Test.YtgakniehfnegiaaL0
import Derived.Test.YtgakniehfnegiaaL2
import Derived.Test.YtgakniehfnegiaaH4
namespace Go.Proofs.Ytgakniehfnegiaa
open Go.ChangeShapes Go.WideShapes Go.ChangeAt Go.RowKit
set_option linter.unusedVariables false
set_option linter.unusedSimpArgs false

theorem cells_i32 : Try.prog.cellsOf 21 = 1 := by kernel_rfl
theorem cells_u32 : Try.prog.cellsOf 95 = 1 := by kernel_rfl
theorem cells_2i32 : Try.prog.cellsOf 94 = 2 := by kernel_rfl
theorem cells_3u32 : Try.prog.cellsOf 96 = 3 := by kernel_rfl
set_option maxRecDepth 100000 in
theorem truths_lifted (os : Os) (started : os.Started) (H : Type) (enc : TypeId × Value → H) :
    ReturnsInHanded {} Try.checked os 11 .any (Rows.spanHoldsSpec.pre6 enc Try.prog Try.f11 Rows.spanHoldsRow.domain false) (Rows.spanHoldsSpec.post enc Try.prog Try.f11 false true false false) := by
  refine returnsInHanded_of_change (C := Try.checked) ownKnobs started (by kernel_rfl) Try.func11
    (ChangeSpec.witness6 (enc := enc) (C := Try.checked) false ⟨#[], #[.agg #[.int .i32 0, .int .i32 0], .agg #[.int .i32 0, .int .i32 0], .agg #[.int .u32 0, .int .u32 0, .int .u32 0]], []⟩ 8 (by kernel_rfl) (by kernel_rfl) (by kernel_rfl) (by kernel_rfl)) ?_
  intro W base args ds gs before hval0 hW hcnd _
  have hval : ∀ (j : Nat) t v, Try.f11.params[j]? = some t → args[j]? = some v → Value.okWide Try.prog W .any base t v := hval0
  have hW' := hW
  obtain ⟨p, q, hA0, hV, rfl, hfz, hnd⟩ := hW
  have hA : DataW.TrodAll enc Try.prog W 0 (fun _ => true) true Try.f11.params.toList args.toList ds p := hA0
  rw [Try.params11] at hA hval
  obtain ⟨v0, vs0, d0, ds0, p0, q0, hargs, rfl, rfl, h0, r0⟩ := trodAll_cons hA
  obtain ⟨v1, vs1, d1, ds1, p1, q1, rfl, rfl, rfl, h1, r1⟩ := trodAll_cons r0
  obtain ⟨v2, vs2, d2, ds2, p2, q2, rfl, rfl, rfl, h2, r2⟩ := trodAll_cons r1
  obtain ⟨rfl, rfl, rfl⟩ := trodAll_nil r2
  obtain rfl : args = #[v0, v1, v2] := by cases args; simp_all
  obtain ⟨rfl, rfl⟩ := trodVars_none hV
  obtain ⟨a0, a1, rfl, rfl, rfl, wa0, wa1⟩ := open_a2 Try.underlying94 cells_i32 cells_2i32 Try.underlying21 (hval 0 94 v0 rfl rfl) h0
  obtain ⟨b0, b1, rfl, rfl, rfl, wb0, wb1⟩ := open_a2 Try.underlying94 cells_i32 cells_2i32 Try.underlying21 (hval 1 94 v1 rfl rfl) h1
  obtain ⟨c0, c1, c2, rfl, rfl, rfl, wc0, wc1, wc2⟩ := open_a3 Try.underlying96 cells_u32 cells_3u32 Try.underlying95 (hval 2 96 v2 rfl rfl) h2
  clear hA0 hval0
  simp only [List.append_nil] at hW'
  refine (holds_walk a0 a1 b0 b1 c0 c1 c2 (wf_i32 wa0).1 (wf_i32 wa0).2 (wf_i32 wa1).1 (wf_i32 wa1).2 (wf_i32 wb0).1 (wf_i32 wb0).2 (wf_i32 wb1).1 (wf_i32 wb1).2
    (wf_u32 wc0).1 (wf_u32 wc0).2 (wf_u32 wc1).1 (wf_u32 wc1).2 (wf_u32 wc2).1 (wf_u32 wc2).2 W).mono fun e W' ⟨he, hg⟩ => ?_
  subst he
  exact ⟨_, rfl, post_law hW' hg (trodAll_cons_mk (shut_bool Try.underlying4 _) trodAll_mk0) (trodAll_cons_mk (shut_a2 Try.underlying94 cells_i32 cells_2i32 Try.underlying21 wa0 wa1) (trodAll_cons_mk (shut_a2 Try.underlying94 cells_i32 cells_2i32 Try.underlying21 wb0 wb1) (trodAll_cons_mk (shut_a3 Try.underlying96 cells_u32 cells_3u32 Try.underlying95 wc0 wc1 wc2) trodAll_mk0))) rfl⟩

theorem truths_over : Rows.spanHoldsRow.holds Try.pinned (OpenSpec.ofChange Rows.spanHoldsSpec) :=
  OpenClaim.holds_of_wide 11 Try.f11 rfl rfl rfl rfl rfl rfl rfl ⟨rfl, rfl, rfl, rfl, rfl⟩ rfl rfl rfl rfl rfl (by kernel_rfl) Try.func11 (by kernel_rfl)
    (of_decide_eq_true (by kernel_rfl)) (by unfold Func.isWrapper; first | (rw [if_pos (by decide +kernel)]; kernel_rfl) | (rw [if_neg (by decide +kernel)]; exact ⟨rfl, rfl⟩))
    (fun os started H enc _ => truths_lifted os started H enc)

theorem truths_holds : Rows.SpanHoldsSaid :=
  truths_over
end Go.Proofs.Ytgakniehfnegiaa
