/-
  For every sap and every three numbers, the Go function VatRounds returns true, and its arguments read as before.
  Conditions: none.
-/
import Derived.Test.YtbmjkmepjggkfaaL1
import Derived.Test.YtbmjkmepjggkfaaL2
import Derived.Test.YtbmjkmepjggkfaaW22
namespace Go.Proofs.Ytbmjkmepjggkfaa
open Go.ChangeShapes Go.WideShapes Go.ChangeAt Go.RowKit
set_option linter.unusedVariables false
set_option linter.unusedSimpArgs false

set_option maxRecDepth 100000 in
theorem rounds_lifted (os : Os) (started : os.Started) (H : Type) (enc : TypeId × Value → H) :
    ReturnsInHanded {} Try.checked os 4 .any (Rows.vatRoundsSpec.pre6 enc Try.prog Try.f4 Rows.vatRoundsRow.domain false) (Rows.vatRoundsSpec.post enc Try.prog Try.f4 false true false false) := by
  refine returnsInHanded_of_change (C := Try.checked) ownKnobs started (by kernel_rfl) Try.func4
    (ChangeSpec.witness6 (enc := enc) (C := Try.checked) false ⟨#[], #[.agg #[.int .i64 0, .int .i64 0], .agg #[.int .i64 0, .int .i64 0, .int .i64 0]], []⟩ 8 (by kernel_rfl) (by kernel_rfl) (by kernel_rfl) (by kernel_rfl)) ?_
  intro W base args ds gs before hval0 hW hcnd _
  have hval : ∀ (j : Nat) t v, Try.f4.params[j]? = some t → args[j]? = some v → Value.okWide Try.prog W .any base t v := hval0
  have hW' := hW
  obtain ⟨p, q, hA0, hV, rfl, hfz, hnd⟩ := hW
  have hA : DataW.TrodAll enc Try.prog W 0 (fun _ => true) true Try.f4.params.toList args.toList ds p := hA0
  rw [Try.params4] at hA hval
  obtain ⟨v0, vs0, d0, ds0, p0, q0, hargs, rfl, rfl, h0, r0⟩ := trodAll_cons hA
  obtain ⟨v1, vs1, d1, ds1, p1, q1, rfl, rfl, rfl, h1, r1⟩ := trodAll_cons r0
  obtain ⟨rfl, rfl, rfl⟩ := trodAll_nil r1
  obtain rfl : args = #[v0, v1] := by cases args; simp_all
  obtain ⟨rfl, rfl⟩ := trodVars_none hV
  obtain ⟨a, b, rfl, rfl, rfl, wa, wb⟩ := open_ii Try.underlying36 (by kernel_rfl) sapCells Try.underlying3 Try.underlying3 (hval 0 36 v0 rfl rfl) h0
  obtain ⟨c, d, e, rfl, rfl, rfl, wc, wd, we⟩ := open_a3 Try.underlying37 (by kernel_rfl) (by kernel_rfl) Try.underlying3 (hval 1 37 v1 rfl rfl) h1
  clear hA0 hval0
  simp only [List.append_nil] at hW'
  refine (vatRounds_true a b c d e W).mono fun e W' ⟨he, hg⟩ => ?_
  subst he
  exact ⟨_, rfl, post_law hW' hg (trodAll_cons_mk (shut_bool Try.underlying4 _) trodAll_mk0) (trodAll_cons_mk (shut_ii Try.underlying36 (by kernel_rfl) sapCells Try.underlying3 Try.underlying3 wa wb) (trodAll_cons_mk (shut_a3 Try.underlying37 (by kernel_rfl) (by kernel_rfl) Try.underlying3 wc wd we) trodAll_mk0)) rfl⟩

theorem rounds_over : Rows.vatRoundsRow.holds Try.pinned (OpenSpec.ofChange Rows.vatRoundsSpec) :=
  OpenClaim.holds_of_wide 4 Try.f4 rfl rfl rfl rfl rfl rfl rfl ⟨rfl, rfl, rfl, rfl, rfl⟩ rfl rfl rfl rfl rfl (by kernel_rfl) Try.func4 (by kernel_rfl)
    (of_decide_eq_true (by kernel_rfl)) (by unfold Func.isWrapper; first | (rw [if_pos (by decide +kernel)]; kernel_rfl) | (rw [if_neg (by decide +kernel)]; exact ⟨rfl, rfl⟩))
    (fun os started H enc _ => rounds_lifted os started H enc)

theorem rounds_holds : Rows.VatRoundsSaid :=
  rounds_over
end Go.Proofs.Ytbmjkmepjggkfaa
